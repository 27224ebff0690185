package tape_test

import (
	"math"
	"math/rand/v2"
	"slices"
	"testing"

	"visor/api"
	"visor/tape"
)

// source is the same in each run, so that a failure comes back.
func source() *rand.Rand { return rand.New(rand.NewPCG(3, 4)) }

func someWords(r *rand.Rand, n int) []uint64 {
	l := make([]uint64, n)
	for i := range l {
		l[i] = r.Uint64()
	}
	return l
}

// lists are the edges, and some others: of some of these words tapes are made.
func lists() [][]uint64 {
	r := source()
	l := [][]uint64{nil, {}, {0}, {7}, {0, 0}, {math.MaxUint64, 0, 1 << 63, 1}}
	for n := range 20 {
		l = append(l, someWords(r, n))
	}
	return append(l, someWords(r, 1000))
}

// stands holds what a tape tells of itself against what it should.
func stands(t *testing.T, tp *tape.Tape, left, used, allowed int) {
	t.Helper()
	if tp.Left() != left || tp.Used() != used || tp.Allowed() != allowed {
		t.Fatalf("left %d, used %d, allowed %d; not %d, %d, %d", tp.Left(), tp.Used(), tp.Allowed(), left, used, allowed)
	}
}

// reserves asks for n, and holds the answer against want.
func reserves(t *testing.T, tp *tape.Tape, n int, want api.Errno) {
	t.Helper()
	if got := tp.Reserve(n); got != want {
		t.Fatalf("Reserve of %d: %d, not %d", n, got, want)
	}
}

// draws draws once for each word of want.
func draws(t *testing.T, tp *tape.Tape, want ...uint64) {
	t.Helper()
	for i, w := range want {
		if got, ok := tp.Draw(); !ok || got != w {
			t.Fatalf("draw %d: %d, %v; not %d", i, got, ok, w)
		}
	}
}

// refuses asks for a word that may not be drawn.
func refuses(t *testing.T, tp *tape.Tape) {
	t.Helper()
	if got, ok := tp.Draw(); ok || got != 0 {
		t.Fatalf("drawn: %d, %v", got, ok)
	}
}

// rest takes all words that were not drawn off a tape.
func rest(t *testing.T, tp *tape.Tape) []uint64 {
	t.Helper()
	reserves(t, tp, tp.Left(), api.OK)
	var l []uint64
	for {
		x, ok := tp.Draw()
		if !ok {
			return l
		}
		l = append(l, x)
	}
}

// --- P2.1 ---

func TestNewHasNothingDrawnAndNothingAllowed(t *testing.T) {
	for _, l := range lists() {
		tp := tape.New(l)
		stands(t, tp, len(l), 0, 0)
		refuses(t, tp)
		stands(t, tp, len(l), 0, 0)
		if got := rest(t, tp); !slices.Equal(got, l) {
			t.Fatalf("of %v: %v", l, got)
		}
	}
}

func TestNewCopiesItsWords(t *testing.T) {
	given := []uint64{1, 2, 3}
	tp := tape.New(given)
	reserves(t, tp, 3, api.OK)
	draws(t, tp, 1)
	given[0], given[1], given[2] = 9, 9, 9
	draws(t, tp, 2, 3)
}

func TestNewLeavesWhatItIsGiven(t *testing.T) {
	whole := []uint64{1, 2, 3, 4, 5}
	tp := tape.New(whole[:2])
	stands(t, tp, 2, 0, 0)
	reserves(t, tp, 3, api.ErrRandom)
	if got := rest(t, tp); !slices.Equal(got, []uint64{1, 2}) {
		t.Fatalf("words %v", got)
	}
	if !slices.Equal(whole, []uint64{1, 2, 3, 4, 5}) {
		t.Fatalf("what was given became %v", whole)
	}
}

func TestReserveBelow0(t *testing.T) {
	for _, l := range lists() {
		for _, n := range []int{-1, -2, -len(l), -len(l) - 1, math.MinInt + 1, math.MinInt} {
			if n < 0 {
				tp := tape.New(l)
				reserves(t, tp, n, api.ErrArg)
				stands(t, tp, len(l), 0, 0)
			}
		}
	}
}

func TestReserveOfMoreThanIsLeft(t *testing.T) {
	for _, l := range lists() {
		for _, n := range []int{len(l) + 1, len(l) + 2, 2*len(l) + 1, math.MaxInt - 1, math.MaxInt} {
			tp := tape.New(l)
			reserves(t, tp, n, api.ErrRandom)
			stands(t, tp, len(l), 0, 0)
			refuses(t, tp)
		}
	}
}

func TestReserveOfUpToAllThatIsLeft(t *testing.T) {
	for _, l := range lists() {
		for n := 0; n <= len(l); n += 1 + n/10 {
			tp := tape.New(l)
			reserves(t, tp, n, api.OK)
			stands(t, tp, len(l), 0, n)
			draws(t, tp, l[:n]...)
			refuses(t, tp)
			stands(t, tp, len(l)-n, n, 0)
		}
	}
}

func TestReserveAsksForWhatIsLeftNotForWhatThereWas(t *testing.T) {
	tp := tape.New([]uint64{1, 2, 3, 4, 5})
	reserves(t, tp, 3, api.OK)
	draws(t, tp, 1, 2)
	for _, n := range []int{4, 5, 6, math.MaxInt - 2, math.MaxInt} {
		reserves(t, tp, n, api.ErrRandom)
		stands(t, tp, 3, 2, 1)
	}
	reserves(t, tp, 3, api.OK)
	stands(t, tp, 3, 2, 3)
	draws(t, tp, 3, 4, 5)
	refuses(t, tp)
	reserves(t, tp, 1, api.ErrRandom)
	reserves(t, tp, 0, api.OK)
	reserves(t, tp, -1, api.ErrArg)
	stands(t, tp, 0, 5, 0)
}

func TestReserveSetsTheAllowanceAndAddsNothing(t *testing.T) {
	tp := tape.New([]uint64{1, 2, 3, 4, 5, 6})
	for _, n := range []int{4, 4, 6, 2, 0, 1, 5} {
		reserves(t, tp, n, api.OK)
		stands(t, tp, 6, 0, n)
	}
	draws(t, tp, 1, 2)
	stands(t, tp, 4, 2, 3)
	reserves(t, tp, 1, api.OK)
	stands(t, tp, 4, 2, 1)
	draws(t, tp, 3)
	refuses(t, tp)
	reserves(t, tp, 2, api.OK)
	reserves(t, tp, 0, api.OK)
	refuses(t, tp)
	stands(t, tp, 3, 3, 0)
}

func TestReserveThatIsRefusedKeepsTheAllowance(t *testing.T) {
	tp := tape.New([]uint64{1, 2, 3})
	reserves(t, tp, 2, api.OK)
	reserves(t, tp, -1, api.ErrArg)
	stands(t, tp, 3, 0, 2)
	reserves(t, tp, 4, api.ErrRandom)
	stands(t, tp, 3, 0, 2)
	draws(t, tp, 1, 2)
	refuses(t, tp)
}

func TestDrawTakesOneOfTheAllowance(t *testing.T) {
	words := []uint64{5, 0, math.MaxUint64, 5}
	tp := tape.New(words)
	reserves(t, tp, 4, api.OK)
	for i, w := range words {
		stands(t, tp, 4-i, i, 4-i)
		draws(t, tp, w)
	}
	stands(t, tp, 0, 4, 0)
}

func TestDrawWithoutAllowanceChangesNothing(t *testing.T) {
	tp := tape.New([]uint64{1, 2, 3})
	reserves(t, tp, 1, api.OK)
	draws(t, tp, 1)
	for range 5 {
		refuses(t, tp)
		stands(t, tp, 2, 1, 0)
	}
	reserves(t, tp, 2, api.OK)
	draws(t, tp, 2, 3)
	for range 5 {
		refuses(t, tp)
		stands(t, tp, 0, 3, 0)
	}
}

func TestDrawTellsAWordOf0AsOneThatIsThere(t *testing.T) {
	tp := tape.New([]uint64{0})
	reserves(t, tp, 1, api.OK)
	draws(t, tp, 0)
	refuses(t, tp)
}

// --- P2.2 ---

func TestCloneIsAlikeAtEachPlace(t *testing.T) {
	for _, l := range lists() {
		for used := 0; used <= len(l); used += 1 + used/10 {
			for _, allowed := range []int{0, 1, (len(l) - used) / 2, len(l) - used} {
				if used+allowed > len(l) {
					continue
				}
				tp := tape.New(l)
				reserves(t, tp, used, api.OK)
				draws(t, tp, l[:used]...)
				reserves(t, tp, allowed, api.OK)
				c := tp.Clone()
				stands(t, c, len(l)-used, used, allowed)
				draws(t, c, l[used:used+allowed]...)
				refuses(t, c)
				if got := rest(t, c); !slices.Equal(got, l[used+allowed:]) {
					t.Fatalf("the clone's other words: %v", got)
				}
				stands(t, tp, len(l)-used, used, allowed)
			}
		}
	}
}

func TestCloneAndTapeAreTurnedByThemselves(t *testing.T) {
	tp := tape.New([]uint64{1, 2, 3, 4})
	reserves(t, tp, 2, api.OK)
	c := tp.Clone()
	draws(t, tp, 1, 2)
	stands(t, c, 4, 0, 2)
	reserves(t, c, 3, api.OK)
	stands(t, tp, 2, 2, 0)
	refuses(t, tp)
	draws(t, c, 1)
	cc := c.Clone()
	draws(t, c, 2, 3)
	reserves(t, c, 1, api.OK)
	stands(t, tp, 2, 2, 0)
	stands(t, cc, 3, 1, 2)
	reserves(t, tp, 1, api.OK)
	draws(t, tp, 3)
	draws(t, cc, 2, 3)
	draws(t, c, 4)
	stands(t, tp, 1, 3, 0)
	stands(t, c, 0, 4, 0)
	stands(t, cc, 1, 3, 0)
}

func TestNobodysTape(t *testing.T) {
	var tp *tape.Tape
	for _, n := range []int{math.MinInt, -1, 0, 1, 2, math.MaxInt} {
		reserves(t, tp, n, api.ErrArg)
	}
	refuses(t, tp)
	stands(t, tp, 0, 0, 0)
	if tp.Clone() != nil {
		t.Error("nobody's tape has a clone that is somebody's")
	}
}

func TestATapeThatNewDidNotMakeDoesNotPanic(t *testing.T) {
	var tp tape.Tape
	for _, n := range []int{math.MinInt, -1, 0, 1, math.MaxInt} {
		tp.Reserve(n)
		tp.Draw()
	}
	tp.Left()
	tp.Used()
	tp.Allowed()
	tp.Clone().Draw()
}

// --- P2.3 ---

// model is a tape that is told as plainly as can be: what may be drawn, and what comes behind it.
type model struct{ drawn, may, behind []uint64 }

func (m *model) reserve(n int) api.Errno {
	all := slices.Concat(m.may, m.behind)
	if n < 0 {
		return api.ErrArg
	}
	if n > len(all) {
		return api.ErrRandom
	}
	m.may, m.behind = all[:n], all[n:]
	return api.OK
}

func (m *model) draw() (uint64, bool) {
	if len(m.may) == 0 {
		return 0, false
	}
	x := m.may[0]
	m.drawn, m.may = append(m.drawn, x), m.may[1:]
	return x, true
}

func TestWordsAreDrawnOnceInOrderAndNoMoreThanReserved(t *testing.T) {
	r := source()
	for range 300 {
		words := someWords(r, r.IntN(60))
		tp, m := tape.New(words), &model{behind: words}
		for range 150 {
			if r.IntN(4) == 0 {
				n := r.IntN(len(words)+4) - 2
				reserves(t, tp, n, m.reserve(n))
			} else {
				got, ok := tp.Draw()
				if want, may := m.draw(); got != want || ok != may {
					t.Fatalf("drawn: %d, %v; not %d, %v", got, ok, want, may)
				}
			}
			if r.IntN(8) == 0 {
				tp = tp.Clone()
			}
			stands(t, tp, len(m.may)+len(m.behind), len(m.drawn), len(m.may))
		}
		if got := slices.Concat(m.drawn, rest(t, tp)); !slices.Equal(got, words) {
			t.Fatalf("all told: %v, of %v", got, words)
		}
	}
}

func TestReserveThatIsRefusedDrawsNothing(t *testing.T) {
	words := []uint64{1, 2, 3}
	tp := tape.New(words)
	for i, w := range words {
		reserves(t, tp, len(words)-i+1, api.ErrRandom)
		reserves(t, tp, -1, api.ErrArg)
		stands(t, tp, len(words)-i, i, 0)
		refuses(t, tp)
		reserves(t, tp, 1, api.OK)
		draws(t, tp, w)
	}
}

func TestALongTape(t *testing.T) {
	const n = 1 << 20
	words := someWords(source(), n)
	tp := tape.New(words)
	reserves(t, tp, n+1, api.ErrRandom)
	reserves(t, tp, n, api.OK)
	draws(t, tp, words...)
	refuses(t, tp)
	stands(t, tp, 0, n, 0)
}
