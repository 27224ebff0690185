package share_test

import (
	"fmt"
	"math"
	"math/bits"
	"slices"
	"testing"

	"visor/api"
	"visor/op"
	"visor/share"
	"visor/tape"
	"visor/trace"
	"visor/wire"
)

// c is a constant of which no two bytes are alike.
const c = 0xfedcba9876543210

// farWords is words at their ends, and some between.
func farWords() []uint64 {
	return []uint64{0, 1, 2, 63, 64, 1<<32 - 1, 1 << 32, 1<<63 - 1, 1 << 63, math.MaxUint64 - 1, math.MaxUint64, c}
}

// scatter tells words, one behind the other, such as a rule of numbers scatters.
func scatter(seed uint64) func() uint64 {
	return func() uint64 {
		seed = seed*6364136223846793005 + 1442695040888963407
		high := seed >> 32
		seed = seed*6364136223846793005 + 1442695040888963407
		return high<<32 | seed>>32
	}
}

// someWords is n words that a rule scatters.
func someWords(seed uint64, n int) []uint64 {
	next := scatter(seed)
	out := make([]uint64, n)
	for i := range out {
		out[i] = next()
	}
	return out
}

// reserved is a tape of words that may all be drawn.
func reserved(words ...uint64) *tape.Tape {
	t := tape.New(words)
	t.Reserve(len(words))
	return t
}

// made is a machine that there must be.
func made(t *testing.T, n int, masks *tape.Tape, most int) *wire.Machine {
	t.Helper()
	m, e := wire.New(n, masks, most)
	if m == nil || e != api.OK {
		t.Fatalf("New of %d shares, %d ops: %v, %d", n, most, m, e)
	}
	return m
}

// is holds what a call tells against what it should.
func is[T comparable](t *testing.T, what string, got, want T) {
	t.Helper()
	if got != want {
		t.Errorf("%s: %v, not %v", what, got, want)
	}
}

// are holds a list against what it should be.
func are[T comparable](t *testing.T, what string, got []T, want ...T) {
	t.Helper()
	if !slices.Equal(got, want) {
		t.Errorf("%s: %v, not %v", what, got, want)
	}
}

// word is a word of three registers.
func word(a, b, d int) api.Word { return api.Word{R: [3]int{a, b, d}} }

// lines is ops as lines.
func lines(ops []api.Op) []string {
	var out []string
	for _, o := range ops {
		out = append(out, op.Line(o))
	}
	return out
}

// begin is how many ops a machine did that has two words of n shares.
func begin(n int) int { return 2 * n }

// begun puts two words on a machine, whose registers do not stand in the order of their shares, nor beside each other.
func begun(m *wire.Machine) (api.Word, api.Word) {
	words := someWords(77, 6)
	if m.N() == 2 {
		for r, dom := range []int{0, 1, 0, 1} {
			m.Const(dom, words[r])
		}
		return word(2, 1, -1), word(0, 3, -1)
	}
	for r, dom := range []int{2, 0, 1, 1, 2, 0} {
		m.Const(dom, words[r])
	}
	return word(1, 3, 0), word(5, 2, 4)
}

// call is a call, and what the chapter's words say that it does on a machine that has two words (begun).
type call struct {
	what string
	do   func(m *wire.Machine, a, b api.Word) api.Word
	// two and three are the ops that it does of so many shares, and told are the registers then.
	two, three         []string
	toldTwo, toldThree api.Word
	// stands is what the word that is told stands for, if those that are handed in stand for a and b.
	stands func(a, b uint64) uint64
}

// ops is the ops that it does of n shares, and the word that it tells.
func (r call) ops(n int) ([]string, api.Word) {
	if n == 2 {
		return r.two, r.toldTwo
	}
	return r.three, r.toldThree
}

// keeps is the word that it tells if none of its ops is done.
func (r call) keeps(n int) api.Word {
	_, w := r.ops(n)
	for i := range w.R {
		if w.R[i] >= begin(n) {
			w.R[i] = -1
		}
	}
	return w
}

// makers is the calls that make a word of a constant, or of a key's word.
func makers() []call {
	return []call{
		{
			what:    "Encode",
			do:      func(m *wire.Machine, a, b api.Word) api.Word { return share.Encode(m, c) },
			two:     []string{"rand 1 -1 -1 -1 0", "key 0 4 -1 -1 0"},
			toldTwo: word(5, 4, -1),
			three:   []string{"rand 1 -1 -1 -1 0", "rand 2 -1 -1 -1 0", "key 0 6 7 -1 0"},
			// The key op comes last, and is share 0.
			toldThree: word(8, 6, 7),
			stands:    func(a, b uint64) uint64 { return c },
		},
		{
			what:      "Public",
			do:        func(m *wire.Machine, a, b api.Word) api.Word { return share.Public(m, c) },
			two:       []string{"const 0 -1 -1 -1 18364758544493064720", "const 1 -1 -1 -1 0"},
			toldTwo:   word(4, 5, -1),
			three:     []string{"const 0 -1 -1 -1 18364758544493064720", "const 1 -1 -1 -1 0", "const 2 -1 -1 -1 0"},
			toldThree: word(6, 7, 8),
			stands:    func(a, b uint64) uint64 { return c },
		},
		{
			what:      "Told",
			do:        func(m *wire.Machine, a, b api.Word) api.Word { return share.Told(m, c) },
			two:       []string{"told 0 -1 -1 -1 18364758544493064720", "const 1 -1 -1 -1 0"},
			toldTwo:   word(4, 5, -1),
			three:     []string{"told 0 -1 -1 -1 18364758544493064720", "const 1 -1 -1 -1 0", "const 2 -1 -1 -1 0"},
			toldThree: word(6, 7, 8),
			stands:    func(a, b uint64) uint64 { return c },
		},
	}
}

// turners is the calls that make a word of words.
func turners() []call {
	return []call{
		{
			what:      "Xor",
			do:        share.Xor,
			two:       []string{"xor 0 2 0 -1 0", "xor 1 1 3 -1 0"},
			toldTwo:   word(4, 5, -1),
			three:     []string{"xor 0 1 5 -1 0", "xor 1 3 2 -1 0", "xor 2 0 4 -1 0"},
			toldThree: word(6, 7, 8),
			stands:    func(a, b uint64) uint64 { return a ^ b },
		},
		{
			what:      "Not",
			do:        func(m *wire.Machine, a, b api.Word) api.Word { return share.Not(m, a) },
			two:       []string{"not 0 2 -1 -1 0"},
			toldTwo:   word(4, 1, -1),
			three:     []string{"not 0 1 -1 -1 0"},
			toldThree: word(6, 3, 0),
			stands:    func(a, b uint64) uint64 { return math.MaxUint64 - a },
		},
		{
			what:      "Add",
			do:        func(m *wire.Machine, a, b api.Word) api.Word { return share.Add(m, a, c) },
			two:       []string{"const 0 -1 -1 -1 18364758544493064720", "xor 0 2 4 -1 0"},
			toldTwo:   word(5, 1, -1),
			three:     []string{"const 0 -1 -1 -1 18364758544493064720", "xor 0 1 6 -1 0"},
			toldThree: word(7, 3, 0),
			stands:    func(a, b uint64) uint64 { return a ^ c },
		},
		{
			what:      "AddTold",
			do:        func(m *wire.Machine, a, b api.Word) api.Word { return share.AddTold(m, a, c) },
			two:       []string{"told 0 -1 -1 -1 18364758544493064720", "xor 0 2 4 -1 0"},
			toldTwo:   word(5, 1, -1),
			three:     []string{"told 0 -1 -1 -1 18364758544493064720", "xor 0 1 6 -1 0"},
			toldThree: word(7, 3, 0),
			stands:    func(a, b uint64) uint64 { return a ^ c },
		},
	}
}

// ones is One of each of its kinds.
func ones() []call {
	one := func(kind int, k uint64, stands func(a uint64) uint64) call {
		line := func(dom, r int) string {
			return fmt.Sprintf("%s %d %d -1 -1 %d", op.Name(kind), dom, r, k)
		}
		return call{
			what:      "One of " + op.Name(kind),
			do:        func(m *wire.Machine, a, b api.Word) api.Word { return share.One(m, kind, a, k) },
			two:       []string{line(0, 2), line(1, 1)},
			toldTwo:   word(4, 5, -1),
			three:     []string{line(0, 1), line(1, 3), line(2, 0)},
			toldThree: word(6, 7, 8),
			stands:    func(a, b uint64) uint64 { return stands(a) },
		}
	}
	return []call{
		one(api.Mask, c, func(a uint64) uint64 { return a & c }),
		one(api.Shl, 5, func(a uint64) uint64 { return a << 5 }),
		one(api.Shr, 40, func(a uint64) uint64 { return a >> 40 }),
		one(api.Rot, 63, func(a uint64) uint64 { return bits.RotateLeft64(a, 63) }),
	}
}

// calls is all calls that are handed a machine.
func calls() []call { return slices.Concat(makers(), turners(), ones()) }

// shareCounts is how many shares a machine may have.
func shareCounts() []int { return []int{2, 3} }

// --- P20.1 and P20.2: the ops ---

// TestOps: each call does its ops, in their order, and no others, and tells their registers.
func TestOps(t *testing.T) {
	for _, n := range shareCounts() {
		for _, r := range calls() {
			what := fmt.Sprint(r.what, ", ", n, " shares")
			masks := reserved(someWords(5, 9)...)
			m := made(t, n, masks, 50)
			a, b := begun(m)
			want, told := r.ops(n)
			ahead := lines(m.Trace().Ops)
			w := r.do(m, a, b)
			is(t, what, w, told)
			are(t, what+": ops", lines(m.Trace().Ops), slices.Concat(ahead, want)...)
			is(t, what+": Err", m.Err(), api.OK)
			is(t, what+": Check", trace.Check(m.Trace()), api.OK)
			v := m.Values()
			is(t, what+": what it stands for", share.Value(v, w), r.stands(share.Value(v, a), share.Value(v, b)))
			if r.what == "Encode" {
				are(t, what+": blocks", m.Trace().Blocks, api.Span{Kind: 1, From: begin(n), To: begin(n) + n})
				is(t, what+": drawn", masks.Used(), n-1)
				continue
			}
			are(t, what+": blocks", m.Trace().Blocks)
			is(t, what+": drawn", masks.Used(), 0)
		}
	}
}

// TestOpsAgain: a call that is done twice does its ops twice; nothing is kept from the first one.
func TestOpsAgain(t *testing.T) {
	for _, n := range shareCounts() {
		for _, r := range calls() {
			what := fmt.Sprint(r.what, " again, ", n, " shares")
			m := made(t, n, reserved(someWords(5, 9)...), 50)
			a, b := begun(m)
			want, told := r.ops(n)
			r.do(m, a, b)
			w := r.do(m, a, b)
			for i, first := range told.R {
				if first >= begin(n) {
					first += len(want)
				}
				is(t, what+": register", w.R[i], first)
			}
			is(t, what+": Len", m.Len(), begin(n)+2*len(want))
			v := m.Values()
			is(t, what+": what it stands for", share.Value(v, w), r.stands(share.Value(v, a), share.Value(v, b)))
		}
	}
}

// --- P20.1: Encode ---

// TestEncodedWords: the masks are the last shares, and the key's word, put together with them, is the first one.
func TestEncodedWords(t *testing.T) {
	for _, x := range farWords() {
		for _, r := range farWords() {
			m := made(t, 2, reserved(r), 2)
			w := share.Encode(m, x)
			is(t, "two shares", w, word(1, 0, -1))
			are(t, "two shares: words", m.Values(), r, x^r)
			is(t, "two shares: Value", share.Value(m.Values(), w), x)
			for _, s := range farWords() {
				m := made(t, 3, reserved(r, s), 3)
				w := share.Encode(m, x)
				is(t, "three shares", w, word(2, 0, 1))
				are(t, "three shares: words", m.Values(), r, s, x^r^s)
				is(t, "three shares: Value", share.Value(m.Values(), w), x)
			}
		}
	}
}

// TestEncodeManyWords: key ops are numbered in order, and each word is a block of its own, whatever is done between.
func TestEncodeManyWords(t *testing.T) {
	for _, n := range shareCounts() {
		const many = 40
		xs := someWords(9, many)
		m := made(t, n, reserved(someWords(8, 2*many)...), 400)
		var words []api.Word
		var blocks []api.Span
		for i, x := range xs {
			blocks = append(blocks, api.Span{Kind: api.Encode, From: m.Len(), To: m.Len() + n})
			words = append(words, share.Encode(m, x))
			if i%3 == 0 {
				share.Add(m, words[i], x)
			}
		}
		is(t, "Err", m.Err(), api.OK)
		is(t, "Draws", m.Draws(), many*(n-1))
		is(t, "Words", trace.Words(m.Trace()), many)
		is(t, "Check", trace.Check(m.Trace()), api.OK)
		are(t, "blocks", m.Trace().Blocks, blocks...)
		for i, w := range words {
			is(t, fmt.Sprint("constant of word ", i), m.Trace().Ops[w.R[0]].C, uint64(i))
			is(t, fmt.Sprint("word ", i), share.Value(m.Values(), w), xs[i])
		}
	}
}

// TestEncodeInABlock: no block begins in another one, so that nothing is encoded there.
func TestEncodeInABlock(t *testing.T) {
	for _, n := range shareCounts() {
		for kind := api.Encode; kind <= api.Times; kind++ {
			masks := reserved(1, 2, 3)
			m := made(t, n, masks, 50)
			m.Begin(kind)
			is(t, "in a block", share.Encode(m, 5), word(-1, -1, -1))
			is(t, "in a block: Err", m.Err(), api.ErrArg)
			is(t, "in a block: Len", m.Len(), 0)
			is(t, "in a block: drawn", masks.Used(), 0)
		}
	}
}

// TestNoBlockStaysOpen: behind each call a block may begin, and in one that is open all others but Encode are done as ever.
func TestNoBlockStaysOpen(t *testing.T) {
	for _, n := range shareCounts() {
		for _, r := range calls() {
			what := fmt.Sprint(r.what, ", ", n, " shares")
			m := made(t, n, reserved(1, 2, 3, 4, 5, 6), 50)
			a, b := begun(m)
			r.do(m, a, b)
			from := m.Len()
			m.Begin(api.Fresh)
			for _, inside := range slices.Concat(makers()[1:], turners(), ones()) {
				inside.do(m, a, b)
			}
			m.End()
			is(t, what+": Err", m.Err(), api.OK)
			blocks := m.Trace().Blocks
			is(t, what+": the block behind it", blocks[len(blocks)-1], api.Span{Kind: api.Fresh, From: from, To: m.Len()})
			is(t, what+": Check", trace.Check(m.Trace()), api.OK)
		}
	}
}

// --- P20.1: One ---

// TestOneOfEachConstant: what a word stands for is turned as each share is, by each constant that its op may have.
func TestOneOfEachConstant(t *testing.T) {
	for _, n := range shareCounts() {
		for _, x := range farWords() {
			m := made(t, n, reserved(someWords(x, 2)...), 4000)
			a := share.Encode(m, x)
			stands := func(kind int, k, want uint64) {
				t.Helper()
				w := share.One(m, kind, a, k)
				is(t, fmt.Sprintf("%s of %#x by %d, %d shares", op.Name(kind), x, k, n), share.Value(m.Values(), w), want)
			}
			for k := range uint64(64) {
				stands(api.Shl, k, x<<k)
				stands(api.Shr, k, x>>k)
				stands(api.Rot, k, x<<k|x>>(64-k))
				stands(api.Mask, 1<<k, x&(1<<k))
			}
			for _, k := range farWords() {
				stands(api.Mask, k, x&k)
			}
			is(t, "Err", m.Err(), api.OK)
		}
	}
}

// TestOneIsRefused: what may not stand is an error of the machine, and no register is made.
func TestOneIsRefused(t *testing.T) {
	for _, n := range shareCounts() {
		for _, kind := range []int{0, -1, api.Rand, api.Key, api.Const, api.Told, api.Xor, api.And, api.Open, 13, 256 + api.Rot, math.MaxInt, math.MinInt} {
			if kind == api.Key && n == 2 {
				continue
			}
			m := made(t, n, reserved(1, 2, 3), 50)
			a, _ := begun(m)
			what := fmt.Sprintf("One of kind %d, %d shares", kind, n)
			is(t, what, share.One(m, kind, a, 0), word(-1, -1, -1))
			is(t, what+": Err", m.Err(), api.ErrArg)
			is(t, what+": Len", m.Len(), begin(n))
		}
		for _, kind := range []int{api.Shl, api.Shr, api.Rot} {
			for _, k := range []uint64{64, 65, 128, 256 + 1, 1 << 32, math.MaxUint64} {
				m := made(t, n, reserved(), 50)
				a, _ := begun(m)
				what := fmt.Sprintf("%s by %d, %d shares", op.Name(kind), k, n)
				is(t, what, share.One(m, kind, a, k), word(-1, -1, -1))
				is(t, what+": Err", m.Err(), api.ErrArg)
				is(t, what+": Len", m.Len(), begin(n))
			}
		}
	}
}

// --- errors of the machine ---

// stopped holds what a call did that came to so many of its ops: these alone, whose registers it tells, and -1 for the others that it makes.
func stopped(t *testing.T, what string, r call, m *wire.Machine, w api.Word, did int) {
	t.Helper()
	n := m.N()
	want, told := r.ops(n)
	for i := range told.R {
		if told.R[i] >= begin(n)+did {
			told.R[i] = -1
		}
	}
	is(t, what, w, told)
	are(t, what+": ops", lines(m.Trace().Ops)[begin(n):], want[:did]...)
	are(t, what+": blocks", m.Trace().Blocks)
}

// TestTheBound: ops are done up to the bound; behind it there is no register.
func TestTheBound(t *testing.T) {
	for _, n := range shareCounts() {
		for _, r := range calls() {
			want, told := r.ops(n)
			for did := range want {
				what := fmt.Sprint(r.what, ", ", n, " shares, a bound of ", did, " ops")
				m := made(t, n, reserved(1, 2, 3), begin(n)+did)
				a, b := begun(m)
				w := r.do(m, a, b)
				is(t, what+": Err", m.Err(), api.ErrSize)
				stopped(t, what, r, m, w, did)
			}
			m := made(t, n, reserved(1, 2, 3), begin(n)+len(want))
			a, b := begun(m)
			is(t, r.what+": a bound of as many ops", r.do(m, a, b), told)
			is(t, r.what+": a bound of as many ops: Err", m.Err(), api.OK)
		}
	}
}

// TestMasksThatAreMissing: masks are drawn in order, as many as shares less 1, and one fewer is not enough.
func TestMasksThatAreMissing(t *testing.T) {
	r := makers()[0]
	for _, n := range shareCounts() {
		for left := range n - 1 {
			what := fmt.Sprint("Encode, ", n, " shares, masks: ", left)
			masks := tape.New(someWords(4, 9))
			masks.Reserve(left)
			m := made(t, n, masks, 50)
			a, b := begun(m)
			w := r.do(m, a, b)
			is(t, what+": Err", m.Err(), api.ErrRandom)
			is(t, what+": drawn", masks.Used(), left)
			stopped(t, what, r, m, w, left)
		}
		masks := reserved(someWords(4, n-1)...)
		m := made(t, n, masks, 50)
		a, b := begun(m)
		_, told := r.ops(n)
		is(t, "Encode with as many masks", r.do(m, a, b), told)
		is(t, "Encode with as many masks: left", masks.Left(), 0)
	}
}

// TestBehindAnError: nothing is done, the error stays, and registers are -1, but for those that no op makes.
func TestBehindAnError(t *testing.T) {
	for _, n := range shareCounts() {
		for _, r := range calls() {
			for what, fail := range map[string]func(m *wire.Machine) api.Errno{
				"an argument":   func(m *wire.Machine) api.Errno { m.Const(9, 0); return api.ErrArg },
				"too many ops":  func(m *wire.Machine) api.Errno { m.Const(0, 1); m.Const(0, 1); return api.ErrSize },
				"too few masks": func(m *wire.Machine) api.Errno { m.Rand(-1); return api.ErrRandom },
			} {
				what = fmt.Sprint(r.what, ", ", n, " shares, behind ", what)
				masks := tape.New(someWords(6, 9))
				m := made(t, n, masks, begin(n)+1)
				a, b := begun(m)
				want := fail(m)
				masks.Reserve(5)
				length := m.Len()
				is(t, what, r.do(m, a, b), r.keeps(n))
				is(t, what+": Err", m.Err(), want)
				is(t, what+": Len", m.Len(), length)
				is(t, what+": drawn", masks.Used(), 0)
				are(t, what+": blocks", m.Trace().Blocks)
			}
		}
	}
}

// TestNobodysMachine: it makes nothing, and no call panics.
func TestNobodysMachine(t *testing.T) {
	a, b := word(2, 1, 7), word(0, 3, 8)
	for what, m := range map[string]*wire.Machine{"nobody's": nil, "not made": {}} {
		for _, r := range calls() {
			want := word(-1, -1, -1)
			switch r.what {
			case "Not", "Add", "AddTold":
				want = word(-1, 1, 7)
			}
			is(t, r.what+" of a machine that is "+what, r.do(m, a, b), want)
			is(t, r.what+" of a machine that is "+what+": Len", m.Len(), 0)
		}
	}
}

// TestWrongRegisters: a register that is not there is an error of the machine, at the share that it stands for.
func TestWrongRegisters(t *testing.T) {
	for _, n := range shareCounts() {
		for _, r := range slices.Concat(turners(), ones()) {
			want, _ := r.ops(n)
			for wrong := range n {
				for _, register := range []int{-1, -2, math.MinInt, 50, 1 << 32, math.MaxInt} {
					m := made(t, n, tape.New(nil), 50)
					a, b := begun(m)
					a.R[wrong] = register
					did := wrong
					switch r.what {
					case "Not", "Add", "AddTold":
						// Of share 0 alone there are ops, the last one of which is of it.
						if wrong > 0 {
							continue
						}
						did = len(want) - 1
					}
					what := fmt.Sprint(r.what, ", ", n, " shares, register ", register, " as share ", wrong)
					w := r.do(m, a, b)
					is(t, what+": Err", m.Err(), api.ErrArg)
					stopped(t, what, r, m, w, did)
				}
			}
		}
		for wrong := range n {
			m := made(t, n, tape.New(nil), 50)
			a, b := begun(m)
			b.R[wrong] = begin(n) + wrong
			what := fmt.Sprint("Xor, ", n, " shares, the second word's share ", wrong)
			w := share.Xor(m, a, b)
			is(t, what+": Err", m.Err(), api.ErrArg)
			stopped(t, what, turners()[0], m, w, wrong)
		}
	}
}

// TestSharesThatStay: registers that no op is of are told as they were, whatever they are.
func TestSharesThatStay(t *testing.T) {
	for _, r := range turners()[1:] {
		m := made(t, 3, tape.New(nil), 50)
		m.Const(0, 6)
		w := r.do(m, word(0, 99, -5), api.Word{})
		is(t, r.what, w, word(m.Len()-1, 99, -5))
		is(t, r.what+": Err", m.Err(), api.OK)
	}
}

// --- dry machines ---

// TestDryMachines: they count the same registers, and draw nothing.
func TestDryMachines(t *testing.T) {
	for _, n := range shareCounts() {
		for _, r := range calls() {
			what := fmt.Sprint(r.what, ", dry, ", n, " shares")
			masks := reserved(1, 2)
			m := made(t, n, masks, begin(n))
			a, b := begun(m)
			dry := m.Dry()
			want, told := r.ops(n)
			is(t, what, r.do(dry, a, b), told)
			is(t, what+": Len", dry.Len(), begin(n)+len(want))
			is(t, what+": Err", dry.Err(), api.OK)
			is(t, what+": drawn", masks.Used(), 0)
			is(t, what+": the machine's Len", m.Len(), begin(n))
			draws := 0
			if r.what == "Encode" {
				draws = n - 1
			}
			is(t, what+": Draws", dry.Draws(), draws)
		}
	}
}

// --- P20.2: Value ---

func TestValue(t *testing.T) {
	v := []uint64{1, 2, 4, 8}
	for _, r := range []struct {
		what string
		w    api.Word
		want uint64
	}{
		{"of two shares", word(0, 1, -1), 3},
		{"of three shares", word(3, 1, 0), 11},
		{"of the last register", word(3, -1, -1), 8},
		{"of the last share alone", word(-1, -1, 2), 4},
		{"of no share", word(-1, -1, -1), 0},
		{"of the first register three times", api.Word{}, 1},
		{"of one twice", word(2, 2, -1), 0},
		{"of one twice, and another one", word(2, 3, 2), 8},
		{"of what is behind the last one", word(4, 1, 5), 2},
		{"of what is far behind", word(math.MaxInt, 1<<32, 1<<32+1), 0},
		{"of what is far ahead", word(math.MinInt, -2, 3), 8},
		{"of what fewer bits bring back", word(256, -256, 65536), 0},
	} {
		is(t, r.what, share.Value(v, r.w), r.want)
	}
	are(t, "the words", v, 1, 2, 4, 8)
}

// TestValueOfNoWords: each register counts as 0 then.
func TestValueOfNoWords(t *testing.T) {
	for _, w := range []api.Word{{}, word(0, 1, 2), word(-1, -1, -1), word(math.MinInt, math.MaxInt, 0)} {
		is(t, fmt.Sprint("nil, ", w.R), share.Value(nil, w), 0)
		is(t, fmt.Sprint("an empty list, ", w.R), share.Value([]uint64{}, w), 0)
	}
}

// TestValueOfAPiece: what lies behind the list's length is not read.
func TestValueOfAPiece(t *testing.T) {
	v := []uint64{1, 2, 4, 8}
	is(t, "a piece", share.Value(v[:2], word(1, 2, 3)), 2)
	is(t, "nothing of it", share.Value(v[:0], word(0, 1, 2)), 0)
	is(t, "its end", share.Value(v[2:3], word(0, 1, 2)), 4)
}

// TestValueBitByBit: each bit is that of an odd number of shares.
func TestValueBitByBit(t *testing.T) {
	for _, x := range farWords() {
		for _, y := range farWords() {
			for _, z := range farWords() {
				v := []uint64{z, x, y}
				got := share.Value(v, word(1, 2, 0))
				for i := range 64 {
					sum := x>>i&1 + y>>i&1 + z>>i&1
					is(t, fmt.Sprint("bit ", i), got>>i&1, sum%2)
				}
			}
		}
	}
}

// --- P20.3 ---

// known is a word, and what it should stand for.
type known struct {
	w api.Word
	x uint64
}

// TestWhatWordsStandFor: over long runs of all calls, with masks of all kinds, words stand for what the calls make of what they stood for.
func TestWhatWordsStandFor(t *testing.T) {
	for _, n := range shareCounts() {
		for seed := range uint64(60) {
			next := scatter(seed)
			masks := someWords(seed+1000, 1000)
			if seed%3 == 0 {
				// All masks are alike.
				for i := range masks {
					masks[i] = farWords()[seed/3%12]
				}
			}
			m := made(t, n, reserved(masks...), 4000)
			all := []known{{share.Encode(m, seed), seed}}
			for range 200 {
				all = append(all, step(m, all, next))
			}
			is(t, "Err", m.Err(), api.OK)
			is(t, "Check", trace.Check(m.Trace()), api.OK)
			v, ops := m.Values(), m.Trace().Ops
			for i, k := range all {
				is(t, fmt.Sprint(n, " shares, run ", seed, ", word ", i), share.Value(v, k.w), k.x)
				domains(t, n, ops, k.w)
			}
		}
	}
}

// step does a call that the next numbers choose.
func step(m *wire.Machine, all []known, next func() uint64) known {
	a := all[next()%uint64(len(all))]
	b := all[next()%uint64(len(all))]
	x := next()
	by := x % 64
	switch next() % 11 {
	case 0:
		return known{share.Encode(m, x), x}
	case 1:
		return known{share.Public(m, x), x}
	case 2:
		return known{share.Told(m, x), x}
	case 3:
		return known{share.Not(m, a.w), math.MaxUint64 - a.x}
	case 4:
		return known{share.Add(m, a.w, x), a.x ^ x}
	case 5:
		return known{share.AddTold(m, a.w, x), a.x ^ x}
	case 6:
		return known{share.One(m, api.Mask, a.w, x), a.x & x}
	case 7:
		return known{share.One(m, api.Shl, a.w, by), a.x << by}
	case 8:
		return known{share.One(m, api.Shr, a.w, by), a.x >> by}
	case 9:
		return known{share.One(m, api.Rot, a.w, by), bits.RotateLeft64(a.x, int(by))}
	}
	return known{share.Xor(m, a.w, b.w), a.x ^ b.x}
}

// domains holds that the register of each share is of its domain, and that two shares have no third one.
func domains(t *testing.T, n int, ops []api.Op, w api.Word) {
	t.Helper()
	for i := range n {
		is(t, fmt.Sprint("domain of share ", i), ops[w.R[i]].Dom, i)
	}
	if n == 2 {
		is(t, "the third of two shares", w.R[2], -1)
	}
}

// TestTheSameOps: which ops are done does not hang on masks, on keys, or on what was opened.
func TestTheSameOps(t *testing.T) {
	for _, n := range shareCounts() {
		var first api.Trace
		for i, x := range farWords() {
			m := made(t, n, reserved(someWords(x, 2)...), 50)
			w := share.Encode(m, x)
			w = share.AddTold(m, w, x^5)
			w = share.Xor(m, w, share.Told(m, math.MaxUint64-x))
			share.Not(m, share.One(m, api.Rot, share.Add(m, w, 9), 3))
			if i == 0 {
				first = m.Trace()
			}
			is(t, fmt.Sprintf("%d shares, %#x", n, x), trace.Same(first, m.Trace()), true)
		}
	}
}

// TestMachinesBesideEachOther: what is done on one is not seen on another one.
func TestMachinesBesideEachOther(t *testing.T) {
	two := made(t, 2, reserved(3), 50)
	three := made(t, 3, reserved(4, 5), 50)
	a, b := share.Encode(two, 100), share.Encode(three, 200)
	a, b = share.Add(two, a, 1), share.Not(three, b)
	a, b = share.Xor(two, a, a), share.Xor(three, b, share.Public(three, 7))
	is(t, "two shares", share.Value(two.Values(), a), 0)
	is(t, "three shares", share.Value(three.Values(), b), math.MaxUint64-200^7)
	is(t, "two shares: Len", two.Len(), 6)
	is(t, "three shares: Len", three.Len(), 10)
}

// TestExample: the chapter's example.
func TestExample(t *testing.T) {
	m := made(t, 2, tape.New(nil), 2)
	w := share.Public(m, 7)
	is(t, "ops", m.Len(), 2)
	is(t, "Value", share.Value(m.Values(), w), 7)
}
