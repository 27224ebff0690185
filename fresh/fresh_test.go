package fresh_test

import (
	"fmt"
	"math"
	"slices"
	"testing"

	"visor/api"
	"visor/fresh"
	"visor/op"
	"visor/share"
	"visor/tape"
	"visor/trace"
	"visor/wire"
)

// farWords is words at their ends, and some between.
func farWords() []uint64 {
	return []uint64{0, 1, 2, 63, 64, 1<<32 - 1, 1 << 32, 1<<63 - 1, 1 << 63, math.MaxUint64 - 1, math.MaxUint64, 0xfedcba9876543210}
}

// scatter tells words, one behind the other, such as a rule of numbers scatters.
func scatter(seed uint64) func() uint64 {
	return func() uint64 {
		seed = seed*6364136223846793005 + 1442695040888963407
		high := seed >> 32
		seed = seed*6364136223846793005 + 1442695040888963407
		return high<<32 | seed>>32
	}
}

// someWords is n words that a rule scatters.
func someWords(seed uint64, n int) []uint64 {
	next := scatter(seed)
	out := make([]uint64, n)
	for i := range out {
		out[i] = next()
	}
	return out
}

// reserved is a tape of words that may all be drawn.
func reserved(words ...uint64) *tape.Tape {
	t := tape.New(words)
	t.Reserve(len(words))
	return t
}

// made is a machine that there must be.
func made(t *testing.T, n int, masks *tape.Tape, most int) *wire.Machine {
	t.Helper()
	m, e := wire.New(n, masks, most)
	if m == nil || e != api.OK {
		t.Fatalf("New of %d shares, %d ops: %v, %d", n, most, m, e)
	}
	return m
}

// is holds what a call tells against what it should.
func is[T comparable](t *testing.T, what string, got, want T) {
	t.Helper()
	if got != want {
		t.Errorf("%s: %v, not %v", what, got, want)
	}
}

// are holds a list against what it should be.
func are[T comparable](t *testing.T, what string, got []T, want ...T) {
	t.Helper()
	if !slices.Equal(got, want) {
		t.Errorf("%s: %v, not %v", what, got, want)
	}
}

// word is a word of three registers.
func word(a, b, d int) api.Word { return api.Word{R: [3]int{a, b, d}} }

// nothing is a word of which no register was made.
func nothing() api.Word { return word(-1, -1, -1) }

// lines is ops as lines.
func lines(ops []api.Op) []string {
	var out []string
	for _, o := range ops {
		out = append(out, op.Line(o))
	}
	return out
}

// shareCounts is how many shares a machine may have.
func shareCounts() []int { return []int{2, 3} }

// begun puts shares on a machine, whose registers do not stand in the order of the shares.
func begun(m *wire.Machine, shares [3]uint64) api.Word {
	if m.N() == 2 {
		m.Const(1, shares[1])
		m.Const(0, shares[0])
		return word(1, 0, -1)
	}
	m.Const(2, shares[2])
	m.Const(0, shares[0])
	m.Const(1, shares[1])
	return word(1, 2, 0)
}

// call is a call, on n shares, and what the chapter's words say that it does on a machine that has a word (begun).
type call struct {
	what  string
	do    func(m *wire.Machine, a api.Word) api.Word
	n     int
	draws int
	ops   []string
	// told is the registers that it tells.
	told api.Word
	// masks are those that each share is put together with.
	masks [3][]int
}

// calls is each call, of so many shares each.
func calls() []call {
	two := call{
		n:     2,
		draws: 1,
		ops:   []string{"rand -1 -1 -1 -1 0", "xor 0 1 2 -1 0", "xor 1 0 2 -1 0"},
		told:  word(3, 4, -1),
		masks: [3][]int{{0}, {0}},
	}
	full, simple := two, two
	full.what, full.do = "Full, two shares", fresh.Full
	simple.what, simple.do = "Simple, two shares", fresh.Simple
	return []call{full, simple, {
		what:  "Full, three shares",
		do:    fresh.Full,
		n:     3,
		draws: 3,
		ops: []string{
			"rand -1 -1 -1 -1 0", "rand -1 -1 -1 -1 0", "rand -1 -1 -1 -1 0",
			"xor 0 1 3 -1 0", "xor 0 6 4 -1 0",
			"xor 1 2 3 -1 0", "xor 1 8 5 -1 0",
			"xor 2 0 4 -1 0", "xor 2 10 5 -1 0",
		},
		told:  word(7, 9, 11),
		masks: [3][]int{{0, 1}, {0, 2}, {1, 2}},
	}, {
		what:  "Simple, three shares",
		do:    fresh.Simple,
		n:     3,
		draws: 2,
		ops: []string{
			"rand -1 -1 -1 -1 0", "rand -1 -1 -1 -1 0",
			"xor 0 1 3 -1 0", "xor 0 5 4 -1 0",
			"xor 1 2 3 -1 0",
			"xor 2 0 4 -1 0",
		},
		told:  word(6, 7, 8),
		masks: [3][]int{{0, 1}, {0}, {1}},
	}}
}

// --- P21.1: the ops ---

// TestOps: each call does its ops, in their order, and no others, in a block of its own, and tells their registers.
func TestOps(t *testing.T) {
	for _, r := range calls() {
		masks := reserved(someWords(5, 9)...)
		m := made(t, r.n, masks, 50)
		a := begun(m, [3]uint64(someWords(6, 3)))
		ahead := lines(m.Trace().Ops)
		w := r.do(m, a)
		is(t, r.what, w, r.told)
		are(t, r.what+": ops", lines(m.Trace().Ops), slices.Concat(ahead, r.ops)...)
		are(t, r.what+": blocks", m.Trace().Blocks, api.Span{Kind: 2, From: r.n, To: r.n + len(r.ops)})
		is(t, r.what+": Err", m.Err(), api.OK)
		is(t, r.what+": Check", trace.Check(m.Trace()), api.OK)
		is(t, r.what+": Draws", m.Draws(), r.draws)
		is(t, r.what+": drawn", masks.Used(), r.draws)
	}
}

// TestShares: each share is what it was, put together with its masks, in the order in which they were drawn.
func TestShares(t *testing.T) {
	for _, r := range calls() {
		for seed := range uint64(50) {
			shares := [3]uint64(someWords(seed, 3))
			masks := someWords(seed+100, 3)
			if seed < 12 {
				shares[seed%3], masks[seed/3%3] = farWords()[seed], farWords()[11-seed]
			}
			m := made(t, r.n, reserved(masks...), 50)
			w := r.do(m, begun(m, shares))
			v := m.Values()
			for i := range r.n {
				want := shares[i]
				for _, k := range r.masks[i] {
					want ^= masks[k]
				}
				is(t, fmt.Sprint(r.what, ", run ", seed, ", share ", i), v[w.R[i]], want)
			}
		}
	}
}

// TestOpsAgain: a call that is done twice does its ops twice, with new masks, in two blocks; nothing is kept from the first one.
func TestOpsAgain(t *testing.T) {
	for _, r := range calls() {
		what := r.what + ", again"
		masks := reserved(someWords(5, 9)...)
		m := made(t, r.n, masks, 50)
		a := begun(m, [3]uint64(someWords(6, 3)))
		r.do(m, a)
		w := r.do(m, a)
		for i := range r.n {
			is(t, what+": register", w.R[i], r.told.R[i]+len(r.ops))
		}
		middle, end := r.n+len(r.ops), r.n+2*len(r.ops)
		is(t, what+": Len", m.Len(), end)
		are(t, what+": blocks", m.Trace().Blocks, api.Span{Kind: 2, From: r.n, To: middle}, api.Span{Kind: 2, From: middle, To: end})
		is(t, what+": drawn", masks.Used(), 2*r.draws)
		is(t, what+": what it stands for", share.Value(m.Values(), w), share.Value(m.Values(), a))
	}
}

// TestNoBlockStaysOpen: behind each call a block may begin.
func TestNoBlockStaysOpen(t *testing.T) {
	for _, r := range calls() {
		m := made(t, r.n, reserved(someWords(5, 9)...), 50)
		r.do(m, begun(m, [3]uint64{}))
		from := m.Len()
		m.Begin(api.Times)
		m.Const(0, 1)
		m.End()
		is(t, r.what+": Err", m.Err(), api.OK)
		are(t, r.what+": the block behind it", m.Trace().Blocks[1:], api.Span{Kind: api.Times, From: from, To: from + 1})
	}
}

// TestInABlock: no block begins in another one, so that nothing is made fresh there.
func TestInABlock(t *testing.T) {
	for _, r := range calls() {
		for kind := api.Encode; kind <= api.Times; kind++ {
			what := fmt.Sprint(r.what, " in a block of kind ", kind)
			masks := reserved(1, 2, 3)
			m := made(t, r.n, masks, 50)
			a := begun(m, [3]uint64{})
			m.Begin(kind)
			is(t, what, r.do(m, a), nothing())
			is(t, what+": Err", m.Err(), api.ErrArg)
			is(t, what+": Len", m.Len(), r.n)
			is(t, what+": drawn", masks.Used(), 0)
		}
	}
}

// TestTheThirdOfTwo: a machine of two shares has no third one, whatever register is handed in there.
func TestTheThirdOfTwo(t *testing.T) {
	for _, r := range calls()[:2] {
		for _, register := range []int{-2, 0, 1, 2, 50, math.MaxInt, math.MinInt} {
			m := made(t, 2, reserved(9), 50)
			a := begun(m, [3]uint64{5, 6})
			a.R[2] = register
			what := fmt.Sprint(r.what, ", a third register ", register)
			is(t, what, r.do(m, a), r.told)
			is(t, what+": Err", m.Err(), api.OK)
			are(t, what+": ops", lines(m.Trace().Ops)[2:], r.ops...)
		}
	}
}

// TestOneRegisterForAll: shares of one register alone are made fresh as all others, each of its own domain.
func TestOneRegisterForAll(t *testing.T) {
	for _, r := range calls() {
		m := made(t, r.n, reserved(someWords(3, 3)...), 50)
		m.Const(-1, 77)
		w := r.do(m, word(0, 0, 0))
		is(t, r.what+": Err", m.Err(), api.OK)
		for i := range r.n {
			is(t, r.what+": domain", m.Trace().Ops[w.R[i]].Dom, i)
		}
		is(t, r.what+": what it stands for", share.Value(m.Values(), w), uint64(r.n%2*77))
	}
}

// --- P21.1: errors of the machine ---

// stopped holds what a call did that came to so many of its ops: these alone, whose registers it tells, and -1 for all others.
func stopped(t *testing.T, what string, r call, m *wire.Machine, w api.Word, did int) {
	t.Helper()
	told := r.told
	for i := range told.R {
		if told.R[i] >= r.n+did {
			told.R[i] = -1
		}
	}
	is(t, what, w, told)
	are(t, what+": ops", lines(m.Trace().Ops)[r.n:], r.ops[:did]...)
	are(t, what+": blocks", m.Trace().Blocks)
}

// TestTheBound: ops are done up to the bound; behind it there is no register.
func TestTheBound(t *testing.T) {
	for _, r := range calls() {
		for did := range r.ops {
			what := fmt.Sprint(r.what, ", a bound of ", did, " ops")
			m := made(t, r.n, reserved(1, 2, 3), r.n+did)
			w := r.do(m, begun(m, [3]uint64{}))
			is(t, what+": Err", m.Err(), api.ErrSize)
			stopped(t, what, r, m, w, did)
		}
		m := made(t, r.n, reserved(1, 2, 3), r.n+len(r.ops))
		is(t, r.what+", a bound of as many ops", r.do(m, begun(m, [3]uint64{})), r.told)
		is(t, r.what+", a bound of as many ops: Err", m.Err(), api.OK)
	}
}

// TestMasksThatAreMissing: as many masks as are needed are enough, and one fewer is not.
func TestMasksThatAreMissing(t *testing.T) {
	for _, r := range calls() {
		for left := range r.draws {
			what := fmt.Sprint(r.what, ", masks: ", left)
			masks := tape.New(someWords(4, 9))
			masks.Reserve(left)
			m := made(t, r.n, masks, 50)
			w := r.do(m, begun(m, [3]uint64{}))
			is(t, what+": Err", m.Err(), api.ErrRandom)
			is(t, what+": drawn", masks.Used(), left)
			stopped(t, what, r, m, w, left)
		}
		masks := reserved(someWords(4, r.draws)...)
		m := made(t, r.n, masks, 50)
		is(t, r.what+", as many masks", r.do(m, begun(m, [3]uint64{})), r.told)
		is(t, r.what+", as many masks: Err", m.Err(), api.OK)
		is(t, r.what+", as many masks: left", masks.Left(), 0)
	}
}

// TestBehindAnError: nothing is done, the error stays, and no register of the word is told.
func TestBehindAnError(t *testing.T) {
	for _, r := range calls() {
		for what, fail := range map[string]func(m *wire.Machine) api.Errno{
			"an argument":   func(m *wire.Machine) api.Errno { m.Const(9, 0); return api.ErrArg },
			"too many ops":  func(m *wire.Machine) api.Errno { m.Const(0, 1); m.Const(0, 1); return api.ErrSize },
			"too few masks": func(m *wire.Machine) api.Errno { m.Rand(-1); return api.ErrRandom },
		} {
			what = r.what + ", behind " + what
			masks := tape.New(someWords(6, 9))
			m := made(t, r.n, masks, r.n+1)
			a := begun(m, [3]uint64{})
			want := fail(m)
			masks.Reserve(5)
			length := m.Len()
			is(t, what, r.do(m, a), nothing())
			is(t, what+": Err", m.Err(), want)
			is(t, what+": Len", m.Len(), length)
			is(t, what+": drawn", masks.Used(), 0)
			are(t, what+": blocks", m.Trace().Blocks)
		}
	}
}

// TestNobodysMachine: it makes nothing, and no call panics.
func TestNobodysMachine(t *testing.T) {
	for what, m := range map[string]*wire.Machine{"nobody's": nil, "not made": {}} {
		for _, r := range calls() {
			for _, a := range []api.Word{word(0, 1, 2), {}, nothing(), word(math.MinInt, math.MaxInt, 5)} {
				is(t, r.what+" of a machine that is "+what, r.do(m, a), nothing())
				is(t, r.what+" of a machine that is "+what+": Len", m.Len(), 0)
			}
		}
	}
}

// TestWrongRegisters: a register that is not there is an error of the machine, behind the masks, and the shares ahead of it.
func TestWrongRegisters(t *testing.T) {
	for _, r := range calls() {
		did := r.draws
		for wrong := range r.n {
			for _, register := range []int{-1, -2, math.MinInt, 50, 1 << 32, math.MaxInt} {
				m := made(t, r.n, reserved(1, 2, 3), 50)
				a := begun(m, [3]uint64{})
				a.R[wrong] = register
				what := fmt.Sprint(r.what, ", register ", register, " as share ", wrong)
				w := r.do(m, a)
				is(t, what+": Err", m.Err(), api.ErrArg)
				stopped(t, what, r, m, w, did)
			}
			did += len(r.masks[wrong])
		}
	}
}

// --- dry machines ---

// TestDryMachines: they count the same registers and masks, and draw nothing.
func TestDryMachines(t *testing.T) {
	for _, r := range calls() {
		what := r.what + ", dry"
		masks := reserved(1, 2, 3)
		m := made(t, r.n, masks, r.n)
		a := begun(m, [3]uint64{})
		dry := m.Dry()
		is(t, what, r.do(dry, a), r.told)
		is(t, what+": Err", dry.Err(), api.OK)
		is(t, what+": Len", dry.Len(), r.n+len(r.ops))
		is(t, what+": Draws", dry.Draws(), r.draws)
		is(t, what+": drawn", masks.Used(), 0)
		is(t, what+": the machine's Len", m.Len(), r.n)
		r.do(dry, a)
		is(t, what+", again: Draws", dry.Draws(), 2*r.draws)
	}
}

// --- P21.2 ---

func TestDraws(t *testing.T) {
	is(t, "Draws of 2", fresh.Draws(2), 1)
	is(t, "Draws of 3", fresh.Draws(3), 3)
	for _, n := range []int{0, 1, 4, 5, 6, 64, -1, -2, -3, 256 + 2, 256 + 3, 65536 + 3, 1<<32 + 2, 1<<32 + 3, math.MaxInt, math.MinInt, math.MinInt + 2, math.MinInt + 3} {
		is(t, fmt.Sprint("Draws of ", n), fresh.Draws(n), 0)
	}
}

// TestDrawsIsWhatFullTakes: it is told ahead of what is drawn.
func TestDrawsIsWhatFullTakes(t *testing.T) {
	for _, n := range shareCounts() {
		masks := reserved(someWords(5, 9)...)
		m := made(t, n, masks, 50)
		fresh.Full(m, begun(m, [3]uint64{}))
		is(t, fmt.Sprint("drawn of ", n, " shares"), masks.Used(), fresh.Draws(n))
	}
}

// --- P21.3 ---

// TestWhatWordsStandFor: over long runs of fresh words, and of some that are put together, words stand for what they did.
func TestWhatWordsStandFor(t *testing.T) {
	for _, n := range shareCounts() {
		for seed := range uint64(60) {
			next := scatter(seed)
			masks := someWords(seed+1000, 1000)
			if seed%3 == 0 {
				// All masks are alike.
				for i := range masks {
					masks[i] = farWords()[seed/3%12]
				}
			}
			m := made(t, n, reserved(masks...), 4000)
			words, stand := []api.Word{share.Encode(m, seed)}, []uint64{seed}
			for range 150 {
				i, k := next()%uint64(len(words)), next()%uint64(len(words))
				switch next() % 5 {
				case 0, 1:
					words, stand = append(words, fresh.Full(m, words[i])), append(stand, stand[i])
				case 2, 3:
					words, stand = append(words, fresh.Simple(m, words[i])), append(stand, stand[i])
				default:
					words, stand = append(words, share.Add(m, share.Xor(m, words[i], words[k]), seed)), append(stand, stand[i]^stand[k]^seed)
				}
			}
			is(t, "Err", m.Err(), api.OK)
			is(t, "Check", trace.Check(m.Trace()), api.OK)
			v, ops := m.Values(), m.Trace().Ops
			for i, w := range words {
				is(t, fmt.Sprint(n, " shares, run ", seed, ", word ", i), share.Value(v, w), stand[i])
				for s := range n {
					is(t, fmt.Sprint("domain of share ", s), ops[w.R[s]].Dom, s)
				}
			}
		}
	}
}

// spread is two bits of a number at both ends of a word, so that words of two bits alone are gone through.
func spread(x int) uint64 { return uint64(x&1) | uint64(x>>1&1)<<63 }

// rows counts, over all masks of two bits each, how often the shares of a fresh word (those alone that are asked for, by bits) are which row of words.
func rows(t *testing.T, r call, shares [3]uint64, asked int) map[[3]uint64]int {
	t.Helper()
	out := map[[3]uint64]int{}
	for x := range 1 << (2 * r.draws) {
		m := made(t, r.n, reserved(spread(x), spread(x>>2), spread(x>>4)), 50)
		w := r.do(m, begun(m, shares))
		v := m.Values()
		var row [3]uint64
		for i := range r.n {
			if asked>>i&1 == 1 {
				row[i] = v[w.R[i]]
			}
		}
		out[row]++
	}
	return out
}

// even holds that so many shares are each row of words as often as any other one, whatever the shares were.
func even(t *testing.T, r call, asked, bits int) {
	t.Helper()
	each := 1 << (2 * (r.draws - bits))
	for x := range 1 << (2 * r.n) {
		shares := [3]uint64{spread(x), spread(x >> 2), spread(x >> 4)}
		count := rows(t, r, shares, asked)
		what := fmt.Sprint(r.what, " of ", shares, ", shares ", asked)
		is(t, what+": rows", len(count), 1<<(2*bits))
		for row, often := range count {
			is(t, fmt.Sprint(what, ": row ", row), often, each)
		}
	}
}

// TestFreshRows: fully fresh, any shares but one tell nothing of what they were; simply fresh, each one alone.
func TestFreshRows(t *testing.T) {
	for _, r := range calls() {
		for i := range r.n {
			even(t, r, 1<<i, 1)
		}
	}
	full := calls()[2]
	for i := range full.n {
		even(t, full, 7^1<<i, 2)
	}
}

// TestTheSameOps: which ops are done does not hang on masks, nor on words.
func TestTheSameOps(t *testing.T) {
	for _, r := range calls() {
		var first api.Trace
		for i, x := range farWords() {
			m := made(t, r.n, reserved(someWords(x, 9)...), 50)
			r.do(m, r.do(m, share.Encode(m, x)))
			if i == 0 {
				first = m.Trace()
			}
			is(t, fmt.Sprintf("%s, %#x", r.what, x), trace.Same(first, m.Trace()), true)
		}
	}
}

// TestMachinesBesideEachOther: what is done on one is not seen on another one.
func TestMachinesBesideEachOther(t *testing.T) {
	two := made(t, 2, reserved(someWords(1, 9)...), 50)
	three := made(t, 3, reserved(someWords(2, 9)...), 50)
	a, b := share.Encode(two, 100), share.Encode(three, 200)
	a, b = fresh.Full(two, a), fresh.Simple(three, b)
	a, b = fresh.Simple(two, a), fresh.Full(three, b)
	is(t, "two shares", share.Value(two.Values(), a), 100)
	is(t, "three shares", share.Value(three.Values(), b), 200)
	is(t, "two shares: Len", two.Len(), 2+3+3)
	is(t, "three shares: Len", three.Len(), 3+6+9)
	is(t, "two shares: Draws", two.Draws(), 1+1+1)
	is(t, "three shares: Draws", three.Draws(), 2+2+3)
}

// TestExample: the chapter's example.
func TestExample(t *testing.T) {
	for _, r := range calls()[:2] {
		m := made(t, 2, reserved(5), 5)
		w := r.do(m, begun(m, [3]uint64{1, 2}))
		is(t, "share 0", m.Values()[w.R[0]], 4)
		is(t, "share 1", m.Values()[w.R[1]], 7)
	}
}
