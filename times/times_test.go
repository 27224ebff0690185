package times_test

import (
	"fmt"
	"math"
	"slices"
	"testing"

	"visor/api"
	"visor/fresh"
	"visor/op"
	"visor/share"
	"visor/tape"
	"visor/times"
	"visor/trace"
	"visor/wire"
)

// farWords is words at their ends, and some between.
func farWords() []uint64 {
	return []uint64{0, 1, 2, 63, 64, 1<<32 - 1, 1 << 32, 1<<63 - 1, 1 << 63, math.MaxUint64 - 1, math.MaxUint64, 0xfedcba9876543210}
}

// otherNumbers is numbers that are neither of two, nor of its neighbours, among them those that come round to one in fewer bits.
func otherNumbers() []int {
	return []int{0, 4, 5, 6, 64, -1, -2, -3, 256 + 1, 256 + 2, 256 + 3, 65536 + 2, 1<<32 + 1, 1<<32 + 2, 1<<32 + 3, math.MaxInt, math.MinInt, math.MinInt + 2, math.MinInt + 3}
}

// scatter tells words, one behind the other, such as a rule of numbers scatters.
func scatter(seed uint64) func() uint64 {
	return func() uint64 {
		seed = seed*6364136223846793005 + 1442695040888963407
		high := seed >> 32
		seed = seed*6364136223846793005 + 1442695040888963407
		return high<<32 | seed>>32
	}
}

// someWords is n words that a rule scatters.
func someWords(seed uint64, n int) []uint64 {
	next := scatter(seed)
	out := make([]uint64, n)
	for i := range out {
		out[i] = next()
	}
	return out
}

// reserved is a tape of words that may all be drawn.
func reserved(words ...uint64) *tape.Tape {
	t := tape.New(words)
	t.Reserve(len(words))
	return t
}

// made is a machine that there must be.
func made(t *testing.T, n int, masks *tape.Tape, most int) *wire.Machine {
	t.Helper()
	m, e := wire.New(n, masks, most)
	if m == nil || e != api.OK {
		t.Fatalf("New of %d shares, %d ops: %v, %d", n, most, m, e)
	}
	return m
}

// is holds what a call tells against what it should.
func is[T comparable](t *testing.T, what string, got, want T) {
	t.Helper()
	if got != want {
		t.Errorf("%s: %v, not %v", what, got, want)
	}
}

// are holds a list against what it should be.
func are[T comparable](t *testing.T, what string, got []T, want ...T) {
	t.Helper()
	if !slices.Equal(got, want) {
		t.Errorf("%s: %v, not %v", what, got, want)
	}
}

// word is a word of three registers.
func word(a, b, d int) api.Word { return api.Word{R: [3]int{a, b, d}} }

// nothing is a word of which no register was made.
func nothing() api.Word { return word(-1, -1, -1) }

// lines is ops as lines.
func lines(ops []api.Op) []string {
	var out []string
	for _, o := range ops {
		out = append(out, op.Line(o))
	}
	return out
}

// shareCounts is how many shares a machine may have.
func shareCounts() []int { return []int{2, 3} }

// kinds is both kinds of multiplication.
func kinds() []int { return []int{1, 2} }

// begun puts the shares of two words on a machine, whose registers do not stand in the order of the shares, nor of the words.
func begun(m *wire.Machine, a, b [3]uint64) (api.Word, api.Word) {
	if m.N() == 2 {
		m.Const(1, a[1])
		m.Const(0, b[0])
		m.Const(0, a[0])
		m.Const(1, b[1])
		return word(2, 0, -1), word(1, 3, -1)
	}
	m.Const(2, b[2])
	m.Const(0, a[0])
	m.Const(2, a[2])
	m.Const(0, b[0])
	m.Const(1, b[1])
	m.Const(1, a[1])
	return word(1, 5, 2), word(3, 4, 0)
}

// call is a call, on n shares, and what the chapter's words say that it does on a machine that has two words (begun).
type call struct {
	what  string
	do    func(m *wire.Machine, a, b api.Word) api.Word
	kind  int
	n     int
	draws int
	ops   []string
	// told is the registers that it tells.
	told api.Word
	// parts are what each share is put together of.
	parts [3]part
}

// part is the products (of the first word's share and the second one's), and the masks, that a share is put together of.
type part struct {
	products [][2]int
	masks    []int
}

// ahead is how many ops there are ahead of the call.
func (r call) ahead() int { return 2 * r.n }

// word tells a share's word, of both words' shares and of masks.
func (r call) word(i int, a, b [3]uint64, masks []uint64) uint64 {
	x := uint64(0)
	for _, p := range r.parts[i].products {
		x ^= a[p[0]] & b[p[1]]
	}
	for _, k := range r.parts[i].masks {
		x ^= masks[k]
	}
	return x
}

// gadgets is both kinds of two and of three shares, by their own calls.
func gadgets() []call {
	return []call{iswOfTwo(), domOfTwo(), iswOfThree(), domOfThree()}
}

func iswOfTwo() call {
	return call{
		what: "Isw, two shares", do: times.Isw, kind: 1, n: 2, draws: 1,
		ops: []string{
			"rand -1 -1 -1 -1 0",
			"and 0 2 1 -1 0", "and 0 2 3 -1 0",
			"and 1 0 1 -1 0", "and 1 0 3 -1 0",
			"xor 0 5 4 -1 0",
			"xor 1 4 6 -1 0", "xor 1 10 7 -1 0", "xor 1 8 11 -1 0",
		},
		told: word(9, 12, -1),
		parts: [3]part{
			{[][2]int{{0, 0}}, []int{0}},
			{[][2]int{{1, 1}, {0, 1}, {1, 0}}, []int{0}},
		},
	}
}

func domOfTwo() call {
	return call{
		what: "Dom, two shares", do: times.Dom, kind: 2, n: 2, draws: 1,
		ops: []string{
			"rand -1 -1 -1 -1 0",
			"and 0 2 1 -1 0", "and 0 2 3 -1 0",
			"and 1 0 1 -1 0", "and 1 0 3 -1 0",
			"xor 0 6 4 -1 0", "xor 0 5 9 -1 0",
			"xor 1 7 4 -1 0", "xor 1 8 11 -1 0",
		},
		told: word(10, 12, -1),
		parts: [3]part{
			{[][2]int{{0, 0}, {0, 1}}, []int{0}},
			{[][2]int{{1, 0}, {1, 1}}, []int{0}},
		},
	}
}

func iswOfThree() call {
	return call{
		what: "Isw, three shares", do: times.Isw, kind: 1, n: 3, draws: 3,
		ops: []string{
			"rand -1 -1 -1 -1 0", "rand -1 -1 -1 -1 0", "rand -1 -1 -1 -1 0",
			"and 0 1 3 -1 0", "and 0 1 4 -1 0", "and 0 1 0 -1 0",
			"and 1 5 3 -1 0", "and 1 5 4 -1 0", "and 1 5 0 -1 0",
			"and 2 2 3 -1 0", "and 2 2 4 -1 0", "and 2 2 0 -1 0",
			"xor 0 9 6 -1 0", "xor 0 18 7 -1 0",
			"xor 1 6 10 -1 0", "xor 1 20 12 -1 0", "xor 1 13 21 -1 0",
			"xor 1 22 8 -1 0",
			"xor 2 7 11 -1 0", "xor 2 24 15 -1 0", "xor 2 17 25 -1 0",
			"xor 2 8 14 -1 0", "xor 2 27 16 -1 0", "xor 2 26 28 -1 0",
		},
		told: word(19, 23, 29),
		parts: [3]part{
			{[][2]int{{0, 0}}, []int{0, 1}},
			{[][2]int{{1, 1}, {0, 1}, {1, 0}}, []int{0, 2}},
			{[][2]int{{2, 2}, {0, 2}, {2, 0}, {1, 2}, {2, 1}}, []int{1, 2}},
		},
	}
}

func domOfThree() call {
	return call{
		what: "Dom, three shares", do: times.Dom, kind: 2, n: 3, draws: 3,
		ops: []string{
			"rand -1 -1 -1 -1 0", "rand -1 -1 -1 -1 0", "rand -1 -1 -1 -1 0",
			"and 0 1 3 -1 0", "and 0 1 4 -1 0", "and 0 1 0 -1 0",
			"and 1 5 3 -1 0", "and 1 5 4 -1 0", "and 1 5 0 -1 0",
			"and 2 2 3 -1 0", "and 2 2 4 -1 0", "and 2 2 0 -1 0",
			"xor 0 10 6 -1 0", "xor 0 9 18 -1 0", "xor 0 11 7 -1 0", "xor 0 19 20 -1 0",
			"xor 1 12 6 -1 0", "xor 1 13 22 -1 0", "xor 1 14 8 -1 0", "xor 1 23 24 -1 0",
			"xor 2 15 7 -1 0", "xor 2 17 26 -1 0", "xor 2 16 8 -1 0", "xor 2 27 28 -1 0",
		},
		told: word(21, 25, 29),
		parts: [3]part{
			{[][2]int{{0, 0}, {0, 1}, {0, 2}}, []int{0, 1}},
			{[][2]int{{1, 0}, {1, 1}, {1, 2}}, []int{0, 2}},
			{[][2]int{{2, 0}, {2, 1}, {2, 2}}, []int{1, 2}},
		},
	}
}

// by is a call of By with a kind.
func by(kind int) func(m *wire.Machine, a, b api.Word) api.Word {
	return func(m *wire.Machine, a, b api.Word) api.Word { return times.By(m, kind, a, b) }
}

// calls is each call, of so many shares each; By is told by the kinds of both, and by two that are none.
func calls() []call {
	out := gadgets()
	for _, r := range gadgets() {
		asked := []int{r.kind}
		if r.kind == 1 {
			asked = []int{1, 0, 3}
		}
		for _, kind := range asked {
			more := r
			more.what, more.do = fmt.Sprint("By kind ", kind, " as ", r.what), by(kind)
			out = append(out, more)
		}
	}
	return out
}

// --- P22.1: the ops ---

// TestOps: each call does its ops, in their order, and no others, in a block of its own, and tells their registers.
func TestOps(t *testing.T) {
	for _, r := range calls() {
		masks := reserved(someWords(5, 9)...)
		m := made(t, r.n, masks, 50)
		a, b := begun(m, [3]uint64(someWords(6, 3)), [3]uint64(someWords(7, 3)))
		ahead := lines(m.Trace().Ops)
		w := r.do(m, a, b)
		is(t, r.what, w, r.told)
		are(t, r.what+": ops", lines(m.Trace().Ops), slices.Concat(ahead, r.ops)...)
		are(t, r.what+": blocks", m.Trace().Blocks, api.Span{Kind: 3, From: r.ahead(), To: r.ahead() + len(r.ops)})
		is(t, r.what+": Err", m.Err(), api.OK)
		is(t, r.what+": Check", trace.Check(m.Trace()), api.OK)
		is(t, r.what+": Draws", m.Draws(), r.draws)
		is(t, r.what+": drawn", masks.Used(), r.draws)
	}
}

// TestOtherKinds: By does as Isw of all kinds but Dom's.
func TestOtherKinds(t *testing.T) {
	for _, r := range gadgets() {
		if r.kind != 1 {
			continue
		}
		for _, kind := range append(otherNumbers(), 3) {
			what := fmt.Sprint("By kind ", kind, " as ", r.what)
			m := made(t, r.n, reserved(1, 2, 3), 50)
			a, b := begun(m, [3]uint64{}, [3]uint64{})
			is(t, what, by(kind)(m, a, b), r.told)
			are(t, what+": ops", lines(m.Trace().Ops)[r.ahead():], r.ops...)
		}
	}
}

// TestShares: each share is put together of its products and its masks, in the order in which they were drawn.
func TestShares(t *testing.T) {
	for _, r := range calls() {
		for seed := range uint64(60) {
			a, b := [3]uint64(someWords(seed, 3)), [3]uint64(someWords(seed+300, 3))
			masks := someWords(seed+100, 3)
			if seed < 12 {
				a[seed%3], b[seed/3%3], masks[seed/4] = farWords()[seed], farWords()[11-seed], farWords()[seed]
			}
			m := made(t, r.n, reserved(masks...), 50)
			x, y := begun(m, a, b)
			w := r.do(m, x, y)
			v := m.Values()
			for i := range r.n {
				is(t, fmt.Sprint(r.what, ", run ", seed, ", share ", i), v[w.R[i]], r.word(i, a, b, masks))
			}
		}
	}
}

// TestOpsAgain: a call that is done twice does its ops twice, with new masks, in two blocks; nothing is kept from the first one.
func TestOpsAgain(t *testing.T) {
	for _, r := range calls() {
		what := r.what + ", again"
		masks := reserved(someWords(5, 9)...)
		m := made(t, r.n, masks, 80)
		a, b := begun(m, [3]uint64(someWords(6, 3)), [3]uint64(someWords(7, 3)))
		first := r.do(m, a, b)
		w := r.do(m, a, b)
		for i := range r.n {
			is(t, what+": register", w.R[i], r.told.R[i]+len(r.ops))
		}
		middle, end := r.ahead()+len(r.ops), r.ahead()+2*len(r.ops)
		is(t, what+": Len", m.Len(), end)
		are(t, what+": blocks", m.Trace().Blocks, api.Span{Kind: 3, From: r.ahead(), To: middle}, api.Span{Kind: 3, From: middle, To: end})
		is(t, what+": drawn", masks.Used(), 2*r.draws)
		v := m.Values()
		is(t, what+": what it stands for", share.Value(v, w), share.Value(v, first))
		is(t, what+": masks are others", v[w.R[0]] != v[first.R[0]], true)
	}
}

// TestNoBlockStaysOpen: behind each call a block may begin.
func TestNoBlockStaysOpen(t *testing.T) {
	for _, r := range calls() {
		m := made(t, r.n, reserved(someWords(5, 9)...), 50)
		a, b := begun(m, [3]uint64{}, [3]uint64{})
		r.do(m, a, b)
		from := m.Len()
		m.Begin(api.Encode)
		m.Const(0, 1)
		m.End()
		is(t, r.what+": Err", m.Err(), api.OK)
		are(t, r.what+": the block behind it", m.Trace().Blocks[1:], api.Span{Kind: api.Encode, From: from, To: from + 1})
	}
}

// TestInABlock: no block begins in another one, so that nothing is multiplied there.
func TestInABlock(t *testing.T) {
	for _, r := range calls() {
		for kind := api.Encode; kind <= api.Times; kind++ {
			what := fmt.Sprint(r.what, " in a block of kind ", kind)
			masks := reserved(1, 2, 3)
			m := made(t, r.n, masks, 50)
			a, b := begun(m, [3]uint64{}, [3]uint64{})
			m.Begin(kind)
			is(t, what, r.do(m, a, b), nothing())
			is(t, what+": Err", m.Err(), api.ErrArg)
			is(t, what+": Len", m.Len(), r.ahead())
			is(t, what+": drawn", masks.Used(), 0)
		}
	}
}

// TestTheThirdOfTwo: a machine of two shares has no third one, whatever register is handed in there.
func TestTheThirdOfTwo(t *testing.T) {
	for _, r := range calls() {
		if r.n != 2 {
			continue
		}
		for _, register := range []int{-2, 0, 1, 2, 50, math.MaxInt, math.MinInt} {
			m := made(t, 2, reserved(9), 50)
			a, b := begun(m, [3]uint64{5, 6}, [3]uint64{7, 8})
			a.R[2], b.R[2] = register, register
			what := fmt.Sprint(r.what, ", a third register ", register)
			is(t, what, r.do(m, a, b), r.told)
			is(t, what+": Err", m.Err(), api.OK)
			are(t, what+": ops", lines(m.Trace().Ops)[r.ahead():], r.ops...)
		}
	}
}

// TestOneRegisterForAll: shares of one register alone are multiplied as all others, each of its own domain.
func TestOneRegisterForAll(t *testing.T) {
	for _, r := range calls() {
		m := made(t, r.n, reserved(someWords(3, 3)...), 50)
		m.Const(-1, 77)
		w := r.do(m, word(0, 0, 0), word(0, 0, 0))
		is(t, r.what+": Err", m.Err(), api.OK)
		for i := range r.n {
			is(t, r.what+": domain", m.Trace().Ops[w.R[i]].Dom, i)
		}
		is(t, r.what+": what it stands for", share.Value(m.Values(), w), uint64(r.n%2*77))
	}
}

// --- P22.1: errors of the machine ---

// stopped holds what a call did that came to so many of its ops: these alone, whose registers it tells, and -1 for all others.
func stopped(t *testing.T, what string, r call, m *wire.Machine, w api.Word, did int) {
	t.Helper()
	told := r.told
	for i := range told.R {
		if told.R[i] >= r.ahead()+did {
			told.R[i] = -1
		}
	}
	is(t, what, w, told)
	are(t, what+": ops", lines(m.Trace().Ops)[r.ahead():], r.ops[:did]...)
	are(t, what+": blocks", m.Trace().Blocks)
}

// TestTheBound: ops are done up to the bound; behind it there is no register.
func TestTheBound(t *testing.T) {
	for _, r := range calls() {
		for did := range r.ops {
			what := fmt.Sprint(r.what, ", a bound of ", did, " ops")
			m := made(t, r.n, reserved(1, 2, 3), r.ahead()+did)
			a, b := begun(m, [3]uint64{}, [3]uint64{})
			w := r.do(m, a, b)
			is(t, what+": Err", m.Err(), api.ErrSize)
			stopped(t, what, r, m, w, did)
		}
		m := made(t, r.n, reserved(1, 2, 3), r.ahead()+len(r.ops))
		a, b := begun(m, [3]uint64{}, [3]uint64{})
		is(t, r.what+", a bound of as many ops", r.do(m, a, b), r.told)
		is(t, r.what+", a bound of as many ops: Err", m.Err(), api.OK)
	}
}

// TestMasksThatAreMissing: as many masks as are needed are enough, and one fewer is not.
func TestMasksThatAreMissing(t *testing.T) {
	for _, r := range calls() {
		for left := range r.draws {
			what := fmt.Sprint(r.what, ", masks: ", left)
			masks := tape.New(someWords(4, 9))
			masks.Reserve(left)
			m := made(t, r.n, masks, 50)
			a, b := begun(m, [3]uint64{}, [3]uint64{})
			w := r.do(m, a, b)
			is(t, what+": Err", m.Err(), api.ErrRandom)
			is(t, what+": drawn", masks.Used(), left)
			stopped(t, what, r, m, w, left)
		}
		masks := reserved(someWords(4, r.draws)...)
		m := made(t, r.n, masks, 50)
		a, b := begun(m, [3]uint64{}, [3]uint64{})
		is(t, r.what+", as many masks", r.do(m, a, b), r.told)
		is(t, r.what+", as many masks: Err", m.Err(), api.OK)
		is(t, r.what+", as many masks: left", masks.Left(), 0)
	}
}

// TestBehindAnError: nothing is done, the error stays, and no register of the word is told.
func TestBehindAnError(t *testing.T) {
	for _, r := range calls() {
		for what, fail := range map[string]func(m *wire.Machine) api.Errno{
			"an argument":   func(m *wire.Machine) api.Errno { m.Const(9, 0); return api.ErrArg },
			"too many ops":  func(m *wire.Machine) api.Errno { m.Const(0, 1); m.Const(0, 1); return api.ErrSize },
			"too few masks": func(m *wire.Machine) api.Errno { m.Rand(-1); return api.ErrRandom },
		} {
			what = r.what + ", behind " + what
			masks := tape.New(someWords(6, 9))
			m := made(t, r.n, masks, r.ahead()+1)
			a, b := begun(m, [3]uint64{}, [3]uint64{})
			want := fail(m)
			masks.Reserve(5)
			length := m.Len()
			is(t, what, r.do(m, a, b), nothing())
			is(t, what+": Err", m.Err(), want)
			is(t, what+": Len", m.Len(), length)
			is(t, what+": drawn", masks.Used(), 0)
			are(t, what+": blocks", m.Trace().Blocks)
		}
	}
}

// TestNobodysMachine: it makes nothing, and no call panics.
func TestNobodysMachine(t *testing.T) {
	for what, m := range map[string]*wire.Machine{"nobody's": nil, "not made": {}} {
		for _, r := range calls() {
			for _, a := range []api.Word{word(0, 1, 2), {}, nothing(), word(math.MinInt, math.MaxInt, 5)} {
				is(t, r.what+" of a machine that is "+what, r.do(m, a, word(2, 0, 1)), nothing())
				is(t, r.what+" of a machine that is "+what+": Len", m.Len(), 0)
			}
		}
	}
}

// TestWrongRegisters: a register that is not there is an error of the machine, behind the masks, and the products ahead of it.
func TestWrongRegisters(t *testing.T) {
	for _, r := range calls() {
		for wrong := range r.n {
			for _, register := range []int{-1, -2, math.MinInt, 50, 1 << 32, math.MaxInt} {
				what := fmt.Sprint(r.what, ", register ", register, " as share ", wrong)
				m := made(t, r.n, reserved(1, 2, 3), 50)
				a, b := begun(m, [3]uint64{}, [3]uint64{})
				a.R[wrong] = register
				w := r.do(m, a, b)
				is(t, what+" of the first word: Err", m.Err(), api.ErrArg)
				stopped(t, what+" of the first word", r, m, w, r.draws+wrong*r.n)

				m = made(t, r.n, reserved(1, 2, 3), 50)
				a, b = begun(m, [3]uint64{}, [3]uint64{})
				b.R[wrong] = register
				w = r.do(m, a, b)
				is(t, what+" of the second word: Err", m.Err(), api.ErrArg)
				stopped(t, what+" of the second word", r, m, w, r.draws+wrong)
			}
		}
	}
}

// TestRegistersOfItsOwn: at its place in the block a register is there already, and may be multiplied, though no word has it; the one that comes next is not there.
func TestRegistersOfItsOwn(t *testing.T) {
	for _, r := range calls() {
		m := made(t, r.n, reserved(1, 2, 3), 50)
		a, b := begun(m, [3]uint64{}, [3]uint64{})
		a.R[0] = r.ahead() + r.draws - 1
		is(t, r.what+", a mask as a share", r.do(m, a, b), r.told)
		is(t, r.what+", a mask as a share: Err", m.Err(), api.OK)

		m = made(t, r.n, reserved(1, 2, 3), 50)
		a, b = begun(m, [3]uint64{}, [3]uint64{})
		a.R[0] = r.ahead() + r.draws
		is(t, r.what+", its own register as a share", r.do(m, a, b), nothing())
		is(t, r.what+", its own register as a share: Err", m.Err(), api.ErrArg)
	}
}

// --- dry machines ---

// TestDryMachines: they count the same registers and masks, and draw nothing.
func TestDryMachines(t *testing.T) {
	for _, r := range calls() {
		what := r.what + ", dry"
		masks := reserved(1, 2, 3)
		m := made(t, r.n, masks, r.ahead())
		a, b := begun(m, [3]uint64{}, [3]uint64{})
		dry := m.Dry()
		is(t, what, r.do(dry, a, b), r.told)
		is(t, what+": Err", dry.Err(), api.OK)
		is(t, what+": Len", dry.Len(), r.ahead()+len(r.ops))
		is(t, what+": Draws", dry.Draws(), r.draws)
		is(t, what+": drawn", masks.Used(), 0)
		is(t, what+": the machine's Len", m.Len(), r.ahead())
		r.do(dry, a, b)
		is(t, what+", again: Draws", dry.Draws(), 2*r.draws)
	}
}

// --- P22.2 ---

func TestDraws(t *testing.T) {
	is(t, "Draws of 2", times.Draws(2), 1)
	is(t, "Draws of 3", times.Draws(3), 3)
	for _, n := range otherShares() {
		is(t, fmt.Sprint("Draws of ", n), times.Draws(n), 0)
	}
}

// otherShares is numbers of shares that no machine has.
func otherShares() []int {
	return append(otherNumbers(), 1)
}

func TestOpsCounted(t *testing.T) {
	for _, kind := range kinds() {
		is(t, fmt.Sprint("Ops of kind ", kind, " of 2"), times.Ops(kind, 2), 9)
		is(t, fmt.Sprint("Ops of kind ", kind, " of 3"), times.Ops(kind, 3), 24)
		for _, n := range otherShares() {
			is(t, fmt.Sprint("Ops of kind ", kind, " of ", n), times.Ops(kind, n), 0)
		}
	}
	for _, kind := range append(otherNumbers(), 3) {
		for _, n := range append(otherShares(), 2, 3) {
			is(t, fmt.Sprint("Ops of kind ", kind, " of ", n), times.Ops(kind, n), 0)
		}
	}
}

// TestCountsAreWhatIsTaken: they are told ahead of what is drawn and done.
func TestCountsAreWhatIsTaken(t *testing.T) {
	for _, n := range shareCounts() {
		for _, kind := range kinds() {
			what := fmt.Sprint("kind ", kind, " of ", n, " shares")
			masks := reserved(someWords(5, 9)...)
			m := made(t, n, masks, 50)
			a, b := begun(m, [3]uint64{}, [3]uint64{})
			times.By(m, kind, a, b)
			is(t, "drawn of "+what, masks.Used(), times.Draws(n))
			is(t, "done of "+what, m.Len()-2*n, times.Ops(kind, n))
		}
	}
}

// --- P22.3 ---

// runner is a machine with words, and what they should stand for.
type runner struct {
	m     *wire.Machine
	next  func() uint64
	words []api.Word
	stand []uint64
}

// pick is the place of some word.
func (r *runner) pick() int { return int(r.next() % uint64(len(r.words))) }

// put puts a word behind all others.
func (r *runner) put(w api.Word, stand uint64) {
	r.words, r.stand = append(r.words, w), append(r.stand, stand)
}

// step makes a word of two others, more often than not by multiplying them.
func (r *runner) step() {
	i, k := r.pick(), r.pick()
	a, b := r.words[i], r.words[k]
	switch c := r.next(); c % 9 {
	case 0, 1:
		r.put(times.Isw(r.m, a, b), r.stand[i]&r.stand[k])
	case 2, 3:
		r.put(times.Dom(r.m, a, b), r.stand[i]&r.stand[k])
	case 4, 5:
		r.put(times.By(r.m, int(c/9%5), a, fresh.Full(r.m, b)), r.stand[i]&r.stand[k])
	case 6:
		r.put(share.Add(r.m, share.Xor(r.m, a, b), c), r.stand[i]^r.stand[k]^c)
	case 7:
		r.put(share.Encode(r.m, c), c)
	default:
		r.put(share.Not(r.m, a), ^r.stand[i])
	}
}

// TestWhatWordsStandFor: over long runs of words that are multiplied, put together and turned, they stand for what they should.
func TestWhatWordsStandFor(t *testing.T) {
	for _, n := range shareCounts() {
		for seed := range uint64(80) {
			masks := someWords(seed+1000, 2000)
			if seed%3 == 0 {
				// All masks are alike.
				for i := range masks {
					masks[i] = farWords()[seed/3%12]
				}
			}
			r := runner{m: made(t, n, reserved(masks...), 9000), next: scatter(seed)}
			r.put(share.Encode(r.m, math.MaxUint64-seed), math.MaxUint64-seed)
			for range 200 {
				r.step()
			}
			is(t, "Err", r.m.Err(), api.OK)
			is(t, "Check", trace.Check(r.m.Trace()), api.OK)
			v, ops := r.m.Values(), r.m.Trace().Ops
			for i, w := range r.words {
				is(t, fmt.Sprint(n, " shares, run ", seed, ", word ", i), share.Value(v, w), r.stand[i])
				for s := range n {
					is(t, fmt.Sprint("domain of share ", s), ops[w.R[s]].Dom, s)
				}
			}
		}
	}
}

// TestFarWords: words at their ends, multiplied with one another, stand for the bits that both have.
func TestFarWords(t *testing.T) {
	for _, r := range calls() {
		for _, x := range farWords() {
			for _, y := range farWords() {
				m := made(t, r.n, reserved(someWords(x^y, 9)...), 50)
				a, b := share.Encode(m, x), share.Encode(m, y)
				w := r.do(m, a, b)
				is(t, fmt.Sprintf("%s: %#x and %#x", r.what, x, y), share.Value(m.Values(), w), x&y)
			}
		}
	}
}

// spread is two bits of a number at both ends of a word, so that words of two bits alone are gone through.
func spread(x int) uint64 { return uint64(x&1) | uint64(x>>1&1)<<63 }

// spreads is three words of two bits each.
func spreads(x int) [3]uint64 { return [3]uint64{spread(x), spread(x >> 2), spread(x >> 4)} }

// rows counts, over all masks of two bits each, how often the shares that are told (those alone that are asked for, by bits) are which row of words.
func rows(t *testing.T, r call, x, y [3]uint64) [][3]uint64 {
	t.Helper()
	var out [][3]uint64
	for i := range 1 << (2 * r.draws) {
		masks := spreads(i)
		m := made(t, r.n, reserved(masks[:]...), 50)
		a, b := begun(m, x, y)
		w := r.do(m, a, b)
		v := m.Values()
		var row [3]uint64
		for k := range r.n {
			row[k] = v[w.R[k]]
		}
		out = append(out, row)
	}
	return out
}

// even holds that of all shares but one each row of words is as often there as any other one.
func even(t *testing.T, what string, all [][3]uint64, n, but int) {
	t.Helper()
	count := map[[3]uint64]int{}
	for _, row := range all {
		row[but] = 0
		count[row]++
	}
	rows := 1 << (2 * (n - 1))
	is(t, fmt.Sprint(what, ", but share ", but, ": rows"), len(count), rows)
	for row, often := range count {
		is(t, fmt.Sprint(what, ", but share ", but, ": row ", row), often, len(all)/rows)
	}
}

// TestRowsOfShares: all shares but one tell nothing of both words, whatever their shares were: all of one bit, and some of two.
func TestRowsOfShares(t *testing.T) {
	for _, r := range gadgets() {
		for c, next := 0, scatter(9); c < 600; c++ {
			pick := int(next() >> 20)
			x, y := spreads(pick), spreads(pick>>6)
			if c < 64 {
				x = [3]uint64{uint64(c & 1), uint64(c >> 1 & 1), uint64(c >> 2 & 1)}
				y = [3]uint64{uint64(c >> 3 & 1), uint64(c >> 4 & 1), uint64(c >> 5 & 1)}
			}
			all := rows(t, r, x, y)
			for but := range r.n {
				even(t, fmt.Sprint(r.what, " of ", x, " and ", y), all, r.n, but)
			}
		}
	}
}

// TestTheSameOps: which ops are done does not hang on masks, nor on words.
func TestTheSameOps(t *testing.T) {
	for _, r := range calls() {
		var first api.Trace
		for i, x := range farWords() {
			m := made(t, r.n, reserved(someWords(x, 12)...), 80)
			a, b := share.Encode(m, x), share.Encode(m, ^x)
			r.do(m, r.do(m, a, b), a)
			if i == 0 {
				first = m.Trace()
			}
			is(t, fmt.Sprintf("%s, %#x", r.what, x), trace.Same(first, m.Trace()), true)
		}
	}
}

// TestMachinesBesideEachOther: what is done on one is not seen on another one.
func TestMachinesBesideEachOther(t *testing.T) {
	two := made(t, 2, reserved(someWords(1, 9)...), 80)
	three := made(t, 3, reserved(someWords(2, 20)...), 80)
	a, b := share.Encode(two, 100), share.Encode(three, 200)
	a, b = times.Isw(two, a, a), times.Dom(three, b, b)
	a, b = times.Dom(two, a, a), times.Isw(three, b, b)
	is(t, "two shares", share.Value(two.Values(), a), 100)
	is(t, "three shares", share.Value(three.Values(), b), 200)
	is(t, "two shares: Len", two.Len(), 2+9+9)
	is(t, "three shares: Len", three.Len(), 3+24+24)
	is(t, "two shares: Draws", two.Draws(), 1+1+1)
	is(t, "three shares: Draws", three.Draws(), 2+3+3)
}

// TestExample: the chapter's example, of each call and number of shares.
func TestExample(t *testing.T) {
	for _, r := range calls() {
		for seed := range uint64(20) {
			m := made(t, r.n, reserved(someWords(seed, 3)...), 50)
			w := r.do(m, share.Public(m, 6), share.Public(m, 3))
			is(t, r.what, share.Value(m.Values(), w), 2)
		}
	}
}
