package both_test

import (
	"fmt"
	"math"
	"slices"
	"testing"

	"visor/api"
	"visor/both"
	"visor/fresh"
	"visor/op"
	"visor/share"
	"visor/tape"
	"visor/times"
	"visor/trace"
	"visor/wire"
)

// farWords is words at their ends, and some between.
func farWords() []uint64 {
	return []uint64{0, 1, 2, 63, 64, 1<<32 - 1, 1 << 32, 1<<63 - 1, 1 << 63, math.MaxUint64 - 1, math.MaxUint64, 0xfedcba9876543210}
}

// otherNumbers is numbers that are neither of two, nor of its neighbours, among them those that come round to one in fewer bits.
func otherNumbers() []int {
	return []int{0, 4, 5, 6, 64, -1, -2, -3, 256 + 1, 256 + 2, 256 + 3, 65536 + 2, 1<<32 + 1, 1<<32 + 2, 1<<32 + 3, math.MaxInt, math.MinInt, math.MinInt + 2, math.MinInt + 3}
}

// scatter tells words, one behind the other, such as a rule of numbers scatters.
func scatter(seed uint64) func() uint64 {
	return func() uint64 {
		seed = seed*6364136223846793005 + 1442695040888963407
		high := seed >> 32
		seed = seed*6364136223846793005 + 1442695040888963407
		return high<<32 | seed>>32
	}
}

// someWords is n words that a rule scatters.
func someWords(seed uint64, n int) []uint64 {
	next := scatter(seed)
	out := make([]uint64, n)
	for i := range out {
		out[i] = next()
	}
	return out
}

// reserved is a tape of words that may all be drawn.
func reserved(words ...uint64) *tape.Tape {
	t := tape.New(words)
	t.Reserve(len(words))
	return t
}

// enough is a tape of as many masks as each call of these tests takes.
func enough() *tape.Tape { return reserved(someWords(5, 40)...) }

// far is a bound of ops that no call of these tests comes to.
const far = 600

// made is a machine that there must be.
func made(t *testing.T, n int, masks *tape.Tape, most int) *wire.Machine {
	t.Helper()
	m, e := wire.New(n, masks, most)
	if m == nil || e != api.OK {
		t.Fatalf("New of %d shares, %d ops: %v, %d", n, most, m, e)
	}
	return m
}

// is holds what a call tells against what it should.
func is[T comparable](t *testing.T, what string, got, want T) {
	t.Helper()
	if got != want {
		t.Errorf("%s: %v, not %v", what, got, want)
	}
}

// are holds a list against what it should be.
func are[T comparable](t *testing.T, what string, got []T, want ...T) {
	t.Helper()
	if !slices.Equal(got, want) {
		t.Errorf("%s: %v, not %v", what, got, want)
	}
}

// word is a word of three registers.
func word(a, b, d int) api.Word { return api.Word{R: [3]int{a, b, d}} }

// nothing is a word of which no register was made.
func nothing() api.Word { return word(-1, -1, -1) }

// lines is ops as lines.
func lines(ops []api.Op) []string {
	var out []string
	for _, o := range ops {
		out = append(out, op.Line(o))
	}
	return out
}

// shareCounts is how many shares a machine may have.
func shareCounts() []int { return []int{2, 3} }

// asked is both kinds of multiplication, and some that are none.
func asked() []int { return []int{1, 2, 0, 3, -1, 1<<32 + 2} }

// three is three words.
type three [3]api.Word

// begun puts the shares of three words on a machine, whose registers do not stand in the order of the shares, nor of the words.
func begun(m *wire.Machine, a, b, c [3]uint64) three {
	if m.N() == 2 {
		m.Const(1, a[1])
		m.Const(0, b[0])
		m.Const(0, a[0])
		m.Const(1, b[1])
		m.Const(1, c[1])
		m.Const(0, c[0])
		return three{word(2, 0, -1), word(1, 3, -1), word(5, 4, -1)}
	}
	m.Const(2, b[2])
	m.Const(0, a[0])
	m.Const(2, a[2])
	m.Const(0, b[0])
	m.Const(1, b[1])
	m.Const(1, a[1])
	m.Const(1, c[1])
	m.Const(2, c[2])
	m.Const(0, c[0])
	return three{word(1, 5, 2), word(3, 4, 0), word(8, 6, 7)}
}

// ready is a machine with three words, each bit of which is 0.
func ready(t *testing.T, n int, masks *tape.Tape, most int) (*wire.Machine, three) {
	t.Helper()
	m := made(t, n, masks, most)
	return m, begun(m, [3]uint64{}, [3]uint64{}, [3]uint64{})
}

// ahead is how many ops there are ahead of a call.
func ahead(n int) int { return 3 * n }

// call is a call of up to three words, and what the chapter says of it.
type call struct {
	what string
	do   func(m *wire.Machine, kind int, w three) api.Word
	// steps is the same, by calls of the layers below alone, one behind the other.
	steps func(m *wire.Machine, kind int, w three) api.Word
	// ands, nots and each are how often it does And, turns a word, and does an op of each share.
	ands, nots, each int
	// stands is what the word that is told stands for, if those that are handed in stand for x.
	stands func(x [3]uint64) uint64
}

// ops is how many ops it does of n shares.
func (r call) ops(n int) int {
	and := map[int]int{2: 12, 3: 33}[n]
	return r.ands*and + r.nots + r.each*n
}

// draws is how many masks it takes of n shares.
func (r call) draws(n int) int { return r.ands * map[int]int{2: 2, 3: 6}[n] }

// andSteps is And by the calls of the layers below.
func andSteps(m *wire.Machine, kind int, a, b api.Word) api.Word {
	b = fresh.Full(m, b)
	if kind == 2 {
		return times.Dom(m, a, b)
	}
	return times.Isw(m, a, b)
}

// orSteps is Or by the calls of the layers below.
func orSteps(m *wire.Machine, kind int, a, b api.Word) api.Word {
	a = share.Not(m, a)
	b = share.Not(m, b)
	neither := andSteps(m, kind, a, b)
	return share.Not(m, neither)
}

// foldSteps is Fold by the calls of the layers below, of so many bits each.
func foldSteps(m *wire.Machine, kind int, a api.Word, moves []uint64) api.Word {
	for _, by := range moves {
		down := share.One(m, 10, a, by)
		a = orSteps(m, kind, a, down)
	}
	return a
}

// calls is each call.
func calls() []call {
	return slices.Concat(twos(), anys(), folds(), picks())
}

// twos is And, Less and Or.
func twos() []call {
	return []call{
		{
			what:   "And",
			do:     func(m *wire.Machine, kind int, w three) api.Word { return both.And(m, kind, w[0], w[1]) },
			steps:  func(m *wire.Machine, kind int, w three) api.Word { return andSteps(m, kind, w[0], w[1]) },
			ands:   1,
			stands: func(x [3]uint64) uint64 { return x[0] & x[1] },
		},
		{
			what: "Less",
			do:   func(m *wire.Machine, kind int, w three) api.Word { return both.Less(m, kind, w[0], w[1]) },
			steps: func(m *wire.Machine, kind int, w three) api.Word {
				turned := share.Not(m, w[0])
				return andSteps(m, kind, turned, w[1])
			},
			ands: 1, nots: 1,
			stands: func(x [3]uint64) uint64 { return x[1] &^ x[0] },
		},
		{
			what:  "Or",
			do:    func(m *wire.Machine, kind int, w three) api.Word { return both.Or(m, kind, w[0], w[1]) },
			steps: func(m *wire.Machine, kind int, w three) api.Word { return orSteps(m, kind, w[0], w[1]) },
			ands:  1, nots: 3,
			stands: func(x [3]uint64) uint64 { return x[0] | x[1] },
		},
	}
}

// anys is Any, of none to four words.
func anys() []call {
	return []call{
		{
			what:   "Any of no words",
			do:     func(m *wire.Machine, kind int, w three) api.Word { return both.Any(m, kind) },
			steps:  func(m *wire.Machine, kind int, w three) api.Word { return share.Public(m, 0) },
			each:   1,
			stands: func(x [3]uint64) uint64 { return 0 },
		},
		{
			what:   "Any of one word",
			do:     func(m *wire.Machine, kind int, w three) api.Word { return both.Any(m, kind, w[1]) },
			steps:  func(m *wire.Machine, kind int, w three) api.Word { return w[1] },
			stands: func(x [3]uint64) uint64 { return x[1] },
		},
		{
			what:  "Any of two words",
			do:    func(m *wire.Machine, kind int, w three) api.Word { return both.Any(m, kind, w[2], w[0]) },
			steps: func(m *wire.Machine, kind int, w three) api.Word { return orSteps(m, kind, w[2], w[0]) },
			ands:  1, nots: 3,
			stands: func(x [3]uint64) uint64 { return x[2] | x[0] },
		},
		{
			what: "Any of three words",
			do:   func(m *wire.Machine, kind int, w three) api.Word { return both.Any(m, kind, w[:]...) },
			steps: func(m *wire.Machine, kind int, w three) api.Word {
				two := orSteps(m, kind, w[0], w[1])
				return orSteps(m, kind, two, w[2])
			},
			ands: 2, nots: 6,
			stands: func(x [3]uint64) uint64 { return x[0] | x[1] | x[2] },
		},
		{
			what: "Any of four words",
			do:   func(m *wire.Machine, kind int, w three) api.Word { return both.Any(m, kind, w[2], w[1], w[1], w[0]) },
			steps: func(m *wire.Machine, kind int, w three) api.Word {
				two := orSteps(m, kind, w[2], w[1])
				more := orSteps(m, kind, two, w[1])
				return orSteps(m, kind, more, w[0])
			},
			ands: 3, nots: 9,
			stands: func(x [3]uint64) uint64 { return x[0] | x[1] | x[2] },
		},
	}
}

// folds is Fold of each width that it has.
func folds() []call {
	var out []call
	for _, moves := range [][]uint64{{1}, {2, 1}, {4, 2, 1}, {8, 4, 2, 1}, {16, 8, 4, 2, 1}, {32, 16, 8, 4, 2, 1}} {
		width := 2 * int(moves[0])
		out = append(out, call{
			what:  fmt.Sprint("Fold of the width ", width),
			do:    func(m *wire.Machine, kind int, w three) api.Word { return both.Fold(m, kind, w[1], width) },
			steps: func(m *wire.Machine, kind int, w three) api.Word { return foldSteps(m, kind, w[1], moves) },
			ands:  len(moves), nots: 3 * len(moves), each: len(moves),
			stands: func(x [3]uint64) uint64 { return folded(x[1], width) },
		})
	}
	return out
}

// folded is, for each bit, whether any of so many bits is 1, from that bit on.
func folded(x uint64, width int) uint64 {
	out := uint64(0)
	for i := range 64 {
		for k := i; k < min(i+width, 64); k++ {
			out |= x >> k & 1 << i
		}
	}
	return out
}

// picks is Pick and Alike.
func picks() []call {
	return []call{
		{
			what: "Pick",
			do:   func(m *wire.Machine, kind int, w three) api.Word { return both.Pick(m, kind, w[2], w[0], w[1]) },
			steps: func(m *wire.Machine, kind int, w three) api.Word {
				sum := share.Xor(m, w[0], w[1])
				some := andSteps(m, kind, w[2], sum)
				return share.Xor(m, w[0], some)
			},
			ands: 1, each: 2,
			stands: func(x [3]uint64) uint64 { return x[1]&x[2] | x[0]&^x[2] },
		},
		{
			what: "Alike",
			do:   func(m *wire.Machine, kind int, w three) api.Word { return both.Alike(m, kind, w[0], w[1]) },
			steps: func(m *wire.Machine, kind int, w three) api.Word {
				sum := share.Xor(m, w[0], w[1])
				apart := foldSteps(m, kind, sum, []uint64{32, 16, 8, 4, 2, 1})
				return share.Not(m, apart)
			},
			ands: 6, nots: 19, each: 7,
			stands: func(x [3]uint64) uint64 { return math.MaxUint64 - folded(x[0]^x[1], 64) },
		},
	}
}

// every goes through each call, of each number of shares, by kinds of multiplication.
func every(kinds []int, do func(what string, r call, n, kind int)) {
	for _, n := range shareCounts() {
		for _, kind := range kinds {
			for _, r := range calls() {
				do(fmt.Sprint(r.what, ", ", n, " shares, kind ", kind), r, n, kind)
			}
		}
	}
}

// should is what a call should do: the word that it tells, and the trace, with what is there ahead of it.
func should(t *testing.T, r call, n, kind int) (api.Word, api.Trace) {
	t.Helper()
	m, w := ready(t, n, enough(), far)
	told := r.steps(m, kind, w)
	is(t, r.what+": Err of its steps", m.Err(), api.OK)
	return told, m.Trace()
}

// --- P23.1: And, Less and Or, op by op ---

// TestAndOps: the second word is made fresh in a block, and the first one multiplied with that in another one.
func TestAndOps(t *testing.T) {
	for _, r := range []struct {
		n, kind int
		told    api.Word
		ops     []string
		middle  int
	}{
		{2, 1, word(14, 17, -1), iswOfTwo(), 9},
		{2, 2, word(15, 17, -1), domOfTwo(), 9},
		{3, 1, word(31, 35, 41), iswOfThree(), 18},
		{3, 2, word(33, 37, 41), domOfThree(), 18},
	} {
		what := fmt.Sprint("And, ", r.n, " shares, kind ", r.kind)
		m, w := ready(t, r.n, enough(), far)
		is(t, what, both.And(m, r.kind, w[0], w[1]), r.told)
		are(t, what+": ops", lines(m.Trace().Ops)[ahead(r.n):], r.ops...)
		are(t, what+": blocks", m.Trace().Blocks,
			api.Span{Kind: 2, From: ahead(r.n), To: r.middle},
			api.Span{Kind: 3, From: r.middle, To: ahead(r.n) + len(r.ops)})
		is(t, what+": Err", m.Err(), api.OK)
	}
}

func iswOfTwo() []string {
	return []string{
		"rand -1 -1 -1 -1 0",
		"xor 0 1 6 -1 0", "xor 1 3 6 -1 0",
		"rand -1 -1 -1 -1 0",
		"and 0 2 7 -1 0", "and 0 2 8 -1 0",
		"and 1 0 7 -1 0", "and 1 0 8 -1 0",
		"xor 0 10 9 -1 0",
		"xor 1 9 11 -1 0", "xor 1 15 12 -1 0", "xor 1 13 16 -1 0",
	}
}

func domOfTwo() []string {
	return []string{
		"rand -1 -1 -1 -1 0",
		"xor 0 1 6 -1 0", "xor 1 3 6 -1 0",
		"rand -1 -1 -1 -1 0",
		"and 0 2 7 -1 0", "and 0 2 8 -1 0",
		"and 1 0 7 -1 0", "and 1 0 8 -1 0",
		"xor 0 11 9 -1 0", "xor 0 10 14 -1 0",
		"xor 1 12 9 -1 0", "xor 1 13 16 -1 0",
	}
}

// freshOfThree is the ops up to the products, of which both kinds have the same.
func freshOfThree() []string {
	return []string{
		"rand -1 -1 -1 -1 0", "rand -1 -1 -1 -1 0", "rand -1 -1 -1 -1 0",
		"xor 0 3 9 -1 0", "xor 0 12 10 -1 0",
		"xor 1 4 9 -1 0", "xor 1 14 11 -1 0",
		"xor 2 0 10 -1 0", "xor 2 16 11 -1 0",
		"rand -1 -1 -1 -1 0", "rand -1 -1 -1 -1 0", "rand -1 -1 -1 -1 0",
		"and 0 1 13 -1 0", "and 0 1 15 -1 0", "and 0 1 17 -1 0",
		"and 1 5 13 -1 0", "and 1 5 15 -1 0", "and 1 5 17 -1 0",
		"and 2 2 13 -1 0", "and 2 2 15 -1 0", "and 2 2 17 -1 0",
	}
}

func iswOfThree() []string {
	return append(freshOfThree(),
		"xor 0 21 18 -1 0", "xor 0 30 19 -1 0",
		"xor 1 18 22 -1 0", "xor 1 32 24 -1 0", "xor 1 25 33 -1 0",
		"xor 1 34 20 -1 0",
		"xor 2 19 23 -1 0", "xor 2 36 27 -1 0", "xor 2 29 37 -1 0",
		"xor 2 20 26 -1 0", "xor 2 39 28 -1 0", "xor 2 38 40 -1 0",
	)
}

func domOfThree() []string {
	return append(freshOfThree(),
		"xor 0 22 18 -1 0", "xor 0 21 30 -1 0", "xor 0 23 19 -1 0", "xor 0 31 32 -1 0",
		"xor 1 24 18 -1 0", "xor 1 25 34 -1 0", "xor 1 26 20 -1 0", "xor 1 35 36 -1 0",
		"xor 2 27 19 -1 0", "xor 2 29 38 -1 0", "xor 2 28 20 -1 0", "xor 2 39 40 -1 0",
	)
}

// TestLessOps: the first word is turned, and no other one.
func TestLessOps(t *testing.T) {
	m, w := ready(t, 2, enough(), far)
	is(t, "Less", both.Less(m, 1, w[0], w[1]), word(15, 18, -1))
	are(t, "Less: ops", lines(m.Trace().Ops)[6:],
		"not 0 2 -1 -1 0",
		"rand -1 -1 -1 -1 0",
		"xor 0 1 7 -1 0", "xor 1 3 7 -1 0",
		"rand -1 -1 -1 -1 0",
		"and 0 6 8 -1 0", "and 0 6 9 -1 0",
		"and 1 0 8 -1 0", "and 1 0 9 -1 0",
		"xor 0 11 10 -1 0",
		"xor 1 10 12 -1 0", "xor 1 16 13 -1 0", "xor 1 14 17 -1 0",
	)
	are(t, "Less: blocks", m.Trace().Blocks, api.Span{Kind: 2, From: 7, To: 10}, api.Span{Kind: 3, From: 10, To: 19})
}

// TestOrOps: both words are turned, the first one first, and what both have then is turned.
func TestOrOps(t *testing.T) {
	m, w := ready(t, 2, enough(), far)
	is(t, "Or", both.Or(m, 2, w[0], w[1]), word(20, 19, -1))
	are(t, "Or: ops", lines(m.Trace().Ops)[6:],
		"not 0 2 -1 -1 0", "not 0 1 -1 -1 0",
		"rand -1 -1 -1 -1 0",
		"xor 0 7 8 -1 0", "xor 1 3 8 -1 0",
		"rand -1 -1 -1 -1 0",
		"and 0 6 9 -1 0", "and 0 6 10 -1 0",
		"and 1 0 9 -1 0", "and 1 0 10 -1 0",
		"xor 0 13 11 -1 0", "xor 0 12 16 -1 0",
		"xor 1 14 11 -1 0", "xor 1 15 18 -1 0",
		"not 0 17 -1 -1 0",
	)
	are(t, "Or: blocks", m.Trace().Blocks, api.Span{Kind: 2, From: 8, To: 11}, api.Span{Kind: 3, From: 11, To: 20})
}

// TestFoldOps: the word is moved down, share by share, ahead of both being turned.
func TestFoldOps(t *testing.T) {
	m, w := ready(t, 2, enough(), far)
	is(t, "Fold", both.Fold(m, 1, w[2], 2), word(22, 21, -1))
	are(t, "Fold: ops", lines(m.Trace().Ops)[6:],
		"shr 0 5 -1 -1 1", "shr 1 4 -1 -1 1",
		"not 0 5 -1 -1 0", "not 0 6 -1 -1 0",
		"rand -1 -1 -1 -1 0",
		"xor 0 9 10 -1 0", "xor 1 7 10 -1 0",
		"rand -1 -1 -1 -1 0",
		"and 0 8 11 -1 0", "and 0 8 12 -1 0",
		"and 1 4 11 -1 0", "and 1 4 12 -1 0",
		"xor 0 14 13 -1 0",
		"xor 1 13 15 -1 0", "xor 1 19 16 -1 0", "xor 1 17 20 -1 0",
		"not 0 18 -1 -1 0",
	)
}

// --- P23.1: all calls ---

// TestSteps: each call does what the chapter's words say, by the layers below, in their order, and nothing else, by each kind; of those that are none it does as by Isw.
func TestSteps(t *testing.T) {
	every(asked(), func(what string, r call, n, kind int) {
		told, want := should(t, r, n, kind)
		masks := enough()
		m, w := ready(t, n, masks, far)
		is(t, what, r.do(m, kind, w), told)
		are(t, what+": ops", lines(m.Trace().Ops), lines(want.Ops)...)
		are(t, what+": blocks", m.Trace().Blocks, want.Blocks...)
		is(t, what+": Err", m.Err(), api.OK)
		is(t, what+": Check", trace.Check(m.Trace()), api.OK)
		is(t, what+": Len", m.Len(), ahead(n)+r.ops(n))
		is(t, what+": blocks there", len(m.Trace().Blocks), 2*r.ands)
		is(t, what+": drawn", masks.Used(), r.draws(n))
	})
}

// TestAgain: a call that is done twice does its ops twice, with new masks; nothing is kept from the first one, and no block stays open.
func TestAgain(t *testing.T) {
	every(asked(), func(what string, r call, n, kind int) {
		what += ", again"
		told, _ := should(t, r, n, kind)
		masks := reserved(someWords(6, 80)...)
		m, w := ready(t, n, masks, 2*far)
		r.do(m, kind, w)
		for i, register := range told.R {
			if register >= ahead(n) {
				told.R[i] = register + r.ops(n)
			}
		}
		is(t, what, r.do(m, kind, w), told)
		is(t, what+": Len", m.Len(), ahead(n)+2*r.ops(n))
		is(t, what+": drawn", masks.Used(), 2*r.draws(n))
		m.Begin(api.Encode)
		is(t, what+": Err", m.Err(), api.OK)
	})
}

// TestOtherWidths: of a width that is none the word itself is told, and nothing is done.
func TestOtherWidths(t *testing.T) {
	widths := []int{0, 1, 3, 5, 6, 7, 9, 12, 15, 17, 31, 33, 48, 63, 65, 96, 127, 128, 256, 1024, -1, -2, -4, -8, -16, -32, -64,
		1 << 31, 1 << 32, 1<<32 + 2, 1<<32 + 64, 1 << 62, math.MaxInt, math.MinInt, math.MinInt + 2, math.MinInt + 64}
	for _, n := range shareCounts() {
		for _, kind := range asked() {
			for _, width := range widths {
				what := fmt.Sprint("Fold of the width ", width, ", ", n, " shares, kind ", kind)
				masks := enough()
				m, w := ready(t, n, masks, far)
				for _, a := range append(w[:], nothing(), word(-2, math.MaxInt, math.MinInt)) {
					is(t, what, both.Fold(m, kind, a, width), a)
				}
				is(t, what+": Err", m.Err(), api.OK)
				is(t, what+": Len", m.Len(), ahead(n))
				is(t, what+": drawn", masks.Used(), 0)
			}
		}
	}
}

// TestWidths: all widths that are none up to 200 are left alone, and those that are some are not.
func TestWidths(t *testing.T) {
	did := map[int]int{2: 1, 4: 2, 8: 3, 16: 4, 32: 5, 64: 6}
	for width := -200; width <= 200; width++ {
		m, w := ready(t, 2, enough(), far)
		told := both.Fold(m, 1, w[0], width)
		is(t, fmt.Sprint("ops of the width ", width), m.Len()-ahead(2), did[width]*(2+15))
		is(t, fmt.Sprint("the word itself of the width ", width), told == w[0], did[width] == 0)
	}
}

// TestAnyOfManyWords: each further word is put to what there is, in order.
func TestAnyOfManyWords(t *testing.T) {
	for _, n := range shareCounts() {
		for _, kind := range asked() {
			const many = 30
			m := made(t, n, reserved(someWords(8, 500)...), 4000)
			steps := made(t, n, reserved(someWords(8, 500)...), 4000)
			var l []api.Word
			stand := uint64(0)
			for i := range many {
				x := uint64(1) << (2 * i)
				l = append(l, share.Encode(m, x))
				share.Encode(steps, x)
				stand |= x
			}
			sum := l[0]
			for _, w := range l[1:] {
				sum = orSteps(steps, kind, sum, w)
			}
			told := both.Any(m, kind, l...)
			what := fmt.Sprint("Any of ", many, " words, ", n, " shares, kind ", kind)
			is(t, what, told, sum)
			are(t, what+": ops", lines(m.Trace().Ops), lines(steps.Trace().Ops)...)
			is(t, what+": what it stands for", share.Value(m.Values(), told), stand)
			is(t, what+": Err", m.Err(), api.OK)
		}
	}
}

// TestAnyLeavesTheListAlone: the words that it is handed stay as they are, also behind the list's length, and none of them is kept.
func TestAnyLeavesTheListAlone(t *testing.T) {
	m, w := ready(t, 2, enough(), far)
	l := []api.Word{w[0], w[1], w[2], word(7, 8, 9), word(10, 11, 12)}
	before := slices.Clone(l)
	first := both.Any(m, 1, l[:2]...)
	are(t, "the list", l, before...)
	length := m.Len()
	l[0], l[1] = nothing(), nothing()
	both.Any(m, 1, w[2])
	is(t, "Any of one word behind it: Len", m.Len(), length)
	is(t, "what was told", share.Value(m.Values(), first), 0)
}

// TestOneWordForAll: one word may be handed in for each.
func TestOneWordForAll(t *testing.T) {
	every(asked(), func(what string, r call, n, kind int) {
		for _, x := range farWords() {
			m := made(t, n, enough(), far)
			a := share.Encode(m, x)
			w := r.do(m, kind, three{a, a, a})
			is(t, what+": Err", m.Err(), api.OK)
			is(t, fmt.Sprintf("%s, of %#x alone", what, x), share.Value(m.Values(), w), r.stands([3]uint64{x, x, x}))
		}
	})
}

// TestTheThirdOfTwo: a machine of two shares has no third one, whatever register is handed in there.
func TestTheThirdOfTwo(t *testing.T) {
	every(asked(), func(what string, r call, n, kind int) {
		if n != 2 || r.what == "Any of one word" {
			return
		}
		told, want := should(t, r, n, kind)
		for _, register := range []int{-2, 0, 1, 2, 50, math.MaxInt, math.MinInt} {
			m, w := ready(t, n, enough(), far)
			for i := range w {
				w[i].R[2] = register
			}
			is(t, what, r.do(m, kind, w), told)
			is(t, what+": Err", m.Err(), api.OK)
			are(t, what+": ops", lines(m.Trace().Ops), lines(want.Ops)...)
		}
	})
}

// --- P23.1: errors of the machine ---

// stopped holds what a call did that came to so many of its ops: these alone, whose registers it tells, and -1 for all others.
func stopped(t *testing.T, what string, m *wire.Machine, w, told api.Word, want api.Trace, did int) {
	t.Helper()
	end := ahead(want.N) + did
	for i := range told.R {
		if told.R[i] >= end {
			told.R[i] = -1
		}
	}
	is(t, what, w, told)
	are(t, what+": ops", lines(m.Trace().Ops), lines(want.Ops[:end])...)
	blocks := slices.DeleteFunc(slices.Clone(want.Blocks), func(b api.Span) bool { return b.To > end })
	are(t, what+": blocks", m.Trace().Blocks, blocks...)
}

// TestTheBound: ops are done up to the bound; behind it there is no register.
func TestTheBound(t *testing.T) {
	every([]int{1, 2}, func(what string, r call, n, kind int) {
		told, want := should(t, r, n, kind)
		for did := range r.ops(n) {
			m, w := ready(t, n, enough(), ahead(n)+did)
			got := r.do(m, kind, w)
			is(t, fmt.Sprint(what, ", a bound of ", did, " ops: Err"), m.Err(), api.ErrSize)
			stopped(t, fmt.Sprint(what, ", a bound of ", did, " ops"), m, got, told, want, did)
		}
		m, w := ready(t, n, enough(), ahead(n)+r.ops(n))
		is(t, what+", a bound of as many ops", r.do(m, kind, w), told)
		is(t, what+", a bound of as many ops: Err", m.Err(), api.OK)
	})
}

// TestMasksThatAreMissing: as many masks as are needed are enough, and one fewer is not.
func TestMasksThatAreMissing(t *testing.T) {
	every([]int{1, 2}, func(what string, r call, n, kind int) {
		told, want := should(t, r, n, kind)
		left := 0
		for did, o := range want.Ops[ahead(n):] {
			if o.Kind != api.Rand {
				continue
			}
			short := fmt.Sprint(what, ", masks: ", left)
			masks := tape.New(someWords(4, 99))
			masks.Reserve(left)
			m, w := ready(t, n, masks, far)
			got := r.do(m, kind, w)
			is(t, short+": Err", m.Err(), api.ErrRandom)
			is(t, short+": drawn", masks.Used(), left)
			stopped(t, short, m, got, told, want, did)
			left++
		}
		is(t, what+": masks", left, r.draws(n))
		masks := reserved(someWords(4, left)...)
		m, w := ready(t, n, masks, far)
		is(t, what+", as many masks", r.do(m, kind, w), told)
		is(t, what+", as many masks: Err", m.Err(), api.OK)
		is(t, what+", as many masks: left", masks.Left(), 0)
	})
}

// reads is how many ops are done ahead of the first one that reads a register; all, if none does.
func reads(ops []api.Op, register int) int {
	for did, o := range ops {
		if o.A == register || o.B == register {
			return did
		}
	}
	return len(ops)
}

// TestWrongRegisters: a register that is not there is an error of the machine at the first op that would read it; no call asks for it sooner.
func TestWrongRegisters(t *testing.T) {
	every([]int{1, 2}, func(what string, r call, n, kind int) {
		told, want := should(t, r, n, kind)
		_, right := ready(t, n, enough(), far)
		for i := range right {
			for s := range n {
				did := reads(want.Ops[ahead(n):], right[i].R[s])
				if did == r.ops(n) {
					continue
				}
				for _, register := range []int{-1, -2, math.MinInt, far, 1 << 32, math.MaxInt} {
					wrong := fmt.Sprint(what, ", register ", register, " as share ", s, " of word ", i)
					m, w := ready(t, n, enough(), far)
					w[i].R[s] = register
					got := r.do(m, kind, w)
					is(t, wrong+": Err", m.Err(), api.ErrArg)
					stopped(t, wrong, m, got, told, want, did)
				}
			}
		}
	})
}

// undone is the word that a call tells if it can do nothing: none, but where it is told the word itself.
func (r call) undone(w three) api.Word {
	if r.what == "Any of one word" {
		return w[1]
	}
	return nothing()
}

// TestBehindAnError: nothing is done, the error stays, and no register is told that is not there already.
func TestBehindAnError(t *testing.T) {
	fails := map[string]func(m *wire.Machine) api.Errno{
		"an argument":   func(m *wire.Machine) api.Errno { m.Const(9, 0); return api.ErrArg },
		"too many ops":  func(m *wire.Machine) api.Errno { m.Const(0, 1); m.Const(0, 1); return api.ErrSize },
		"too few masks": func(m *wire.Machine) api.Errno { m.Rand(-1); return api.ErrRandom },
	}
	every([]int{1, 2}, func(what string, r call, n, kind int) {
		for why, fail := range fails {
			behind := what + ", behind " + why
			masks := tape.New(someWords(6, 99))
			m, w := ready(t, n, masks, ahead(n)+1)
			e := fail(m)
			masks.Reserve(50)
			length := m.Len()
			is(t, behind, r.do(m, kind, w), r.undone(w))
			is(t, behind+": Err", m.Err(), e)
			is(t, behind+": Len", m.Len(), length)
			is(t, behind+": drawn", masks.Used(), 0)
			are(t, behind+": blocks", m.Trace().Blocks)
		}
	})
}

// TestNobodysMachine: it makes nothing, and no call panics.
func TestNobodysMachine(t *testing.T) {
	for who, m := range map[string]*wire.Machine{"nobody's": nil, "not made": {}} {
		for _, r := range calls() {
			what := r.what + ", a machine that is " + who
			for _, a := range []api.Word{word(0, 1, 2), {}, nothing(), word(math.MinInt, math.MaxInt, 5)} {
				w := three{a, word(2, 0, 1), a}
				is(t, what, r.do(m, 1, w), r.undone(w))
				is(t, what+": Len", m.Len(), 0)
				is(t, what+": Err", m.Err(), api.ErrArg)
			}
		}
		w := word(5, 6, 7)
		is(t, "Any of one word", both.Any(m, 1, w), w)
		is(t, "Fold of no width", both.Fold(m, 1, w, 3), w)
	}
}

// TestInABlock: no block begins in another one, so that calls stop where a word is made fresh.
func TestInABlock(t *testing.T) {
	every([]int{1, 2}, func(what string, r call, n, kind int) {
		told, want := should(t, r, n, kind)
		for block := api.Encode; block <= api.Times; block++ {
			inside := fmt.Sprint(what, ", in a block of kind ", block)
			masks := enough()
			m, w := ready(t, n, masks, far)
			m.Begin(block)
			got := r.do(m, kind, w)
			is(t, inside+": drawn", masks.Used(), 0)
			if len(want.Blocks) == 0 {
				is(t, inside, got, told)
				is(t, inside+": Err", m.Err(), api.OK)
				continue
			}
			is(t, inside+": Err", m.Err(), api.ErrArg)
			stopped(t, inside, m, got, told, want, want.Blocks[0].From-ahead(n))
		}
	})
}

// --- dry machines ---

// TestDryMachines: they count the same registers and masks, and draw nothing.
func TestDryMachines(t *testing.T) {
	every(asked(), func(what string, r call, n, kind int) {
		what += ", dry"
		told, _ := should(t, r, n, kind)
		masks := enough()
		m, w := ready(t, n, masks, ahead(n))
		dry := m.Dry()
		is(t, what, r.do(dry, kind, w), told)
		is(t, what+": Err", dry.Err(), api.OK)
		is(t, what+": Len", dry.Len(), ahead(n)+r.ops(n))
		is(t, what+": Draws", dry.Draws(), r.draws(n))
		is(t, what+": drawn", masks.Used(), 0)
		is(t, what+": the machine's Len", m.Len(), ahead(n))
	})
}

// --- P23.2 ---

func TestDraws(t *testing.T) {
	is(t, "Draws of 2", both.Draws(2), 2)
	is(t, "Draws of 3", both.Draws(3), 6)
	for _, n := range append(otherNumbers(), 1) {
		is(t, fmt.Sprint("Draws of ", n), both.Draws(n), 0)
	}
}

func TestOpsCounted(t *testing.T) {
	is(t, "Ops of 2", both.Ops(2), 12)
	is(t, "Ops of 3", both.Ops(3), 33)
	for _, n := range append(otherNumbers(), 1) {
		is(t, fmt.Sprint("Ops of ", n), both.Ops(n), 0)
	}
}

// TestCountsAreWhatIsTaken: they are told ahead of what is drawn and done, of both kinds.
func TestCountsAreWhatIsTaken(t *testing.T) {
	for _, n := range shareCounts() {
		for _, kind := range asked() {
			what := fmt.Sprint("kind ", kind, " of ", n, " shares")
			masks := enough()
			m, w := ready(t, n, masks, far)
			both.And(m, kind, w[0], w[1])
			is(t, "drawn of "+what, masks.Used(), both.Draws(n))
			is(t, "done of "+what, m.Len()-ahead(n), both.Ops(n))
		}
	}
}

// --- P23.3 ---

// stands holds what a call's word stands for, on a machine of masks, of words that are encoded there.
func stands(t *testing.T, what string, r call, n, kind int, masks *tape.Tape, x [3]uint64) {
	t.Helper()
	m := made(t, n, masks, far)
	w := r.do(m, kind, three{share.Encode(m, x[0]), share.Encode(m, x[1]), share.Encode(m, x[2])})
	is(t, what+": Err", m.Err(), api.OK)
	v, ops := m.Values(), m.Trace().Ops
	is(t, fmt.Sprintf("%s, of %#x", what, x), share.Value(v, w), r.stands(x))
	for s := range n {
		is(t, fmt.Sprint(what, ": domain of share ", s), ops[w.R[s]].Dom, s)
	}
}

// TestEachRow: bits that stand in each row of three, whatever the masks are.
func TestEachRow(t *testing.T) {
	every(asked(), func(what string, r call, n, kind int) {
		x := [3]uint64{0xf0f0f0f0f0f0f0f0, 0xcccccccccccccccc, 0xaaaaaaaaaaaaaaaa}
		for seed := range uint64(10) {
			stands(t, what, r, n, kind, reserved(someWords(seed, 50)...), x)
		}
		for _, mask := range farWords() {
			stands(t, what, r, n, kind, reserved(slices.Repeat([]uint64{mask}, 50)...), x)
		}
	})
}

// TestSomeWords: words that a rule scatters.
func TestSomeWords(t *testing.T) {
	every([]int{1, 2}, func(what string, r call, n, kind int) {
		for seed := range uint64(60) {
			x := [3]uint64(someWords(seed, 3))
			if seed%2 == 1 {
				// Few bits are 1, so that some widths have none.
				for i, more := range someWords(seed+70, 3) {
					x[i] &= more & (more >> 7) & (more << 9)
				}
			}
			if seed%5 == 0 {
				x[1] = x[0]
			}
			stands(t, what, r, n, kind, reserved(someWords(seed+500, 50)...), x)
		}
	})
}

// TestFarWords: words at their ends.
func TestFarWords(t *testing.T) {
	every([]int{1, 2}, func(what string, r call, n, kind int) {
		for i, x := range farWords() {
			for k, y := range farWords() {
				z := farWords()[(i+5*k)%12]
				stands(t, what, r, n, kind, reserved(someWords(x^y, 50)...), [3]uint64{x, y, z})
			}
		}
	})
}

// TestBitsOfFold: bit 0 says whether any of the lowest width bits is 1, whichever that is, and no bit above them is asked.
func TestBitsOfFold(t *testing.T) {
	for _, n := range shareCounts() {
		for _, width := range []int{2, 4, 8, 16, 32, 64} {
			for at := -1; at < 64; at++ {
				x := uint64(0)
				if at >= 0 {
					x = 1 << at
				}
				yes := uint64(0)
				if at >= 0 && at < width {
					yes = 1
				}
				m := made(t, n, enough(), far)
				w := both.Fold(m, 1+at&1, share.Encode(m, x), width)
				is(t, fmt.Sprint(n, " shares, the width ", width, ", bit ", at), share.Value(m.Values(), w)&1, yes)
			}
			m := made(t, n, enough(), far)
			w := both.Fold(m, 2, share.Encode(m, ^(uint64(1)<<width-1)), width)
			is(t, fmt.Sprint(n, " shares, the width ", width, ", all bits above"), share.Value(m.Values(), w)&1, 0)
		}
	}
}

// TestBitsOfAlike: bit 0 says whether both are alike, whichever bit is another one.
func TestBitsOfAlike(t *testing.T) {
	for _, n := range shareCounts() {
		for _, kind := range []int{1, 2} {
			for i, x := range farWords() {
				m := made(t, n, enough(), far)
				w := both.Alike(m, kind, share.Encode(m, x), share.Encode(m, x))
				is(t, fmt.Sprintf("%d shares, kind %d, %#x and itself", n, kind, x), share.Value(m.Values(), w)&1, 1)
				for at := range 64 {
					if (at+i)%5 != 0 {
						continue
					}
					m := made(t, n, enough(), far)
					w := both.Alike(m, kind, share.Encode(m, x), share.Encode(m, x^1<<at))
					is(t, fmt.Sprintf("%d shares, kind %d, %#x, bit %d turned", n, kind, x, at), share.Value(m.Values(), w)&1, 0)
				}
			}
		}
	}
}

// runner is a machine with words, and what they should stand for.
type runner struct {
	m     *wire.Machine
	kind  int
	next  func() uint64
	words []api.Word
	stand []uint64
}

// step makes a word of three others by some call.
func (r *runner) step() {
	var w three
	var x [3]uint64
	for i := range w {
		k := r.next() % uint64(len(r.words))
		w[i], x[i] = r.words[k], r.stand[k]
	}
	some := slices.Concat(twos(), anys(), picks())
	c := some[r.next()%uint64(len(some))]
	r.words, r.stand = append(r.words, c.do(r.m, r.kind, w)), append(r.stand, c.stands(x))
}

// TestLongRuns: over long runs of words that are made of one another, they stand for what they should.
func TestLongRuns(t *testing.T) {
	for _, n := range shareCounts() {
		for seed := range uint64(40) {
			masks := someWords(seed+1000, 3000)
			if seed%3 == 0 {
				// All masks are alike.
				masks = slices.Repeat([]uint64{farWords()[seed/3%12]}, 3000)
			}
			r := runner{m: made(t, n, reserved(masks...), 20000), kind: int(seed % 4), next: scatter(seed)}
			for _, x := range append(someWords(seed+2000, 4), farWords()...) {
				r.words, r.stand = append(r.words, share.Encode(r.m, x)), append(r.stand, x)
			}
			for range 100 {
				r.step()
			}
			is(t, "Err", r.m.Err(), api.OK)
			is(t, "Check", trace.Check(r.m.Trace()), api.OK)
			v := r.m.Values()
			for i, w := range r.words {
				is(t, fmt.Sprint(n, " shares, run ", seed, ", word ", i), share.Value(v, w), r.stand[i])
			}
		}
	}
}

// TestTheSameOps: which ops are done does not hang on masks, nor on words.
func TestTheSameOps(t *testing.T) {
	every([]int{1, 2}, func(what string, r call, n, kind int) {
		var first api.Trace
		for i, x := range farWords() {
			m := made(t, n, reserved(someWords(x, 50)...), far)
			a, b := share.Encode(m, x), share.Encode(m, ^x)
			r.do(m, kind, three{a, b, a})
			if i == 0 {
				first = m.Trace()
			}
			is(t, fmt.Sprintf("%s, %#x", what, x), trace.Same(first, m.Trace()), true)
		}
	})
}

// TestMachinesBesideEachOther: what is done on one is not seen on another one.
func TestMachinesBesideEachOther(t *testing.T) {
	of2, of3 := made(t, 2, enough(), far), made(t, 3, enough(), far)
	a, b := share.Encode(of2, 100), share.Encode(of3, 200)
	a, b = both.Or(of2, 1, a, a), both.And(of3, 2, b, b)
	a, b = both.And(of2, 2, a, a), both.Or(of3, 1, b, b)
	is(t, "two shares", share.Value(of2.Values(), a), 100)
	is(t, "three shares", share.Value(of3.Values(), b), 200)
	is(t, "two shares: Len", of2.Len(), 2+15+12)
	is(t, "three shares: Len", of3.Len(), 3+33+36)
	is(t, "two shares: Draws", of2.Draws(), 1+2+2)
	is(t, "three shares: Draws", of3.Draws(), 2+6+6)
}

// TestExample: the chapter's example, of each kind and number of shares.
func TestExample(t *testing.T) {
	for _, n := range shareCounts() {
		for _, kind := range asked() {
			m := made(t, n, enough(), far)
			w := both.Less(m, kind, share.Public(m, 6), share.Public(m, 3))
			is(t, fmt.Sprint("Less, ", n, " shares, kind ", kind), share.Value(m.Values(), w), 1)
		}
	}
}
