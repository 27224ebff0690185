package trace_test

import (
	"fmt"
	"math"
	"slices"
	"sync"
	"testing"

	"visor/api"
	"visor/op"
	"visor/trace"
)

// otherShares is numbers of shares that no machine has, among them those that come round to one in fewer bits.
func otherShares() []int {
	return []int{0, 1, 4, 5, 64, -1, -2, -3, 256 + 2, 1<<32 + 2, 1<<32 + 3, math.MaxInt, math.MinInt, math.MinInt + 2}
}

// otherKinds is numbers that are no kind of an op, among them those that come round to one in fewer bits.
func otherKinds() []int {
	return []int{0, -1, -2, -12, 13, 14, 16, 25, 256 + 5, 65536 + 12, 1<<32 + 1, 1<<32 + 2, -1<<32 + 12, math.MaxInt, math.MinInt, math.MinInt + 5}
}

// far is numbers that are far from each place, and those next to what a move by fewer bits brings back to one.
func far() []int {
	return []int{math.MinInt, math.MinInt + 1, -1 << 62, -1 << 32, -1<<32 + 1, 1 << 32, 1<<32 + 1, 1<<32 + 2, 1 << 62, math.MaxInt - 1, math.MaxInt}
}

// scatter tells words, one behind the other, such as a rule of numbers scatters.
func scatter(seed uint64) func(below int) int {
	return func(below int) int {
		seed = seed*6364136223846793005 + 1442695040888963407
		return int(seed >> 33 % uint64(below))
	}
}

// free is an op of no register.
func free(kind, dom int, c uint64) api.Op {
	return api.Op{Kind: kind, Dom: dom, A: -1, B: -1, D: -1, C: c}
}

// one is an op of one register.
func one(kind, dom, a int, c uint64) api.Op {
	return api.Op{Kind: kind, Dom: dom, A: a, B: -1, D: -1, C: c}
}

// two is an op of two registers.
func two(kind, dom, a, b int) api.Op {
	return api.Op{Kind: kind, Dom: dom, A: a, B: b, D: -1}
}

// pair is a trace of two shares with all kinds of ops: two encoded words of keys, one of them made fresh and opened, and one moved.
func pair() api.Trace {
	return api.Trace{
		N: 2,
		Ops: []api.Op{
			free(api.Rand, 1, 0),
			one(api.Key, 0, 0, 0),
			free(api.Rand, 1, 0),
			one(api.Key, 0, 2, 1),
			two(api.Xor, 0, 1, 3),
			two(api.Xor, 1, 0, 2),
			free(api.Rand, -1, 0),
			two(api.Xor, 0, 4, 6),
			two(api.Xor, 1, 5, 6),
			{Kind: api.Open, Dom: -1, A: 7, B: 8, D: -1},
			free(api.Told, 0, 1<<63+5),
			free(api.Const, 1, 9),
			one(api.Not, 0, 10, 0),
			one(api.Mask, 0, 12, 255),
			one(api.Shl, 0, 13, 63),
			one(api.Shr, 0, 14, 62),
			one(api.Rot, 0, 15, 61),
			two(api.And, 0, 16, 1),
		},
		Blocks: []api.Span{{Kind: api.Encode, From: 0, To: 2}, {Kind: api.Encode, From: 2, To: 4}, {Kind: api.Fresh, From: 6, To: 9}, {Kind: api.Times, From: 17, To: 18}},
	}
}

// three is a trace of three shares, with a word of a key that is opened twice, and told words.
func three() api.Trace {
	return api.Trace{
		N: 3,
		Ops: []api.Op{
			free(api.Rand, 1, 0),
			free(api.Rand, 2, 0),
			two(api.Key, 0, 0, 1),
			{Kind: api.Open, Dom: -1, A: 2, B: 0, D: 1},
			free(api.Told, 0, 7),
			free(api.Told, 1, 0),
			free(api.Told, 2, math.MaxUint64),
			{Kind: api.Key, Dom: 0, A: 4, B: 5, D: -1, C: 1},
			{Kind: api.Open, Dom: -1, A: 4, B: 5, D: 6},
			{Kind: api.Key, Dom: 2, A: 8, B: 8, D: -1, C: 2},
		},
		Blocks: []api.Span{{Kind: api.Encode, From: 0, To: 3}, {Kind: api.Times, From: 9, To: 10}},
	}
}

// plain is a trace of n ops that are of no register, without blocks.
func plain(shares, n int) api.Trace {
	t := api.Trace{N: shares}
	for range n {
		t.Ops = append(t.Ops, free(api.Const, 0, 3))
	}
	return t
}

// copied is a trace that shares no memory with the given one.
func copied(t api.Trace) api.Trace {
	return api.Trace{N: t.N, Ops: slices.Clone(t.Ops), Blocks: slices.Clone(t.Blocks)}
}

// random is a trace that may be, of so many ops, with blocks where they fall.
func random(seed uint64, shares, ops int) api.Trace {
	pick := scatter(seed)
	t := api.Trace{N: shares}
	words := uint64(0)
	for at := range ops {
		o := api.Op{Kind: 1 + pick(12), Dom: pick(shares+1) - 1, A: -1, B: -1, D: -1}
		count := op.Regs(o.Kind, shares)
		if at == 0 && count > 0 {
			o.Kind, count = 3, 0
		}
		for i, reg := range []*int{&o.A, &o.B, &o.D} {
			if i < count {
				*reg = pick(at)
			}
		}
		switch o.Kind {
		case 2:
			o.C = words
			words++
		case 3, 4, 8:
			o.C = uint64(pick(1 << 30))
		case 9, 10, 11:
			o.C = uint64(pick(64))
		case 12:
			o.Dom = -1
		}
		t.Ops = append(t.Ops, o)
	}
	for from := pick(3); from < ops; from += pick(3) {
		to := min(from+1+pick(5), ops)
		t.Blocks = append(t.Blocks, api.Span{Kind: 1 + pick(3), From: from, To: to})
		from = to
	}
	return t
}

// randoms is traces that may be, of both numbers of shares.
func randoms() []api.Trace {
	out := []api.Trace{{N: 2}, {N: 3}, pair(), three()}
	for seed := range uint64(40) {
		for shares := 2; shares <= 3; shares++ {
			out = append(out, random(seed*7+uint64(shares), shares, int(seed)))
		}
	}
	return out
}

// wrongs is traces of which each call but Check tells something, though they may not be.
func wrongs() []api.Trace {
	out := []api.Trace{{}, {N: -1}, {N: 4, Blocks: []api.Span{{Kind: 9, From: -5, To: 5}, {Kind: 1, From: 7, To: 7}, {Kind: 2, From: 4, To: 2}}}}
	all := api.Trace{N: 2}
	for _, kind := range append(otherKinds(), 12, 4, 2, 2, 1, 1, 1, 12, 12, 12, 12, 5, 5, 6) {
		for _, n := range far() {
			all.Ops = append(all.Ops, api.Op{Kind: kind, Dom: n, A: -n, B: n + 1, D: n, C: uint64(n)})
			all.Blocks = append(all.Blocks, api.Span{Kind: kind, From: n, To: -n})
		}
	}
	return append(out, all)
}

// mayBe tells by the chapter's words whether a trace may be; which op may stand where is layer 17's.
func mayBe(t api.Trace) bool {
	if t.N < 2 || t.N > 3 || len(t.Ops) > 1<<20 {
		return false
	}
	var words []uint64
	for i, o := range t.Ops {
		if !op.Right(o, i, t.N) {
			return false
		}
		if o.Kind == 2 {
			words = append(words, o.C)
		}
	}
	for i, c := range words {
		if c != uint64(i) {
			return false
		}
	}
	for i, b := range t.Blocks {
		if b.Kind != 1 && b.Kind != 2 && b.Kind != 3 {
			return false
		}
		ahead := 0
		if i > 0 {
			ahead = t.Blocks[i-1].To
		}
		if !(ahead <= b.From && b.From < b.To && b.To <= len(t.Ops)) {
			return false
		}
	}
	return true
}

// wantCheck holds what is told of a trace against whether it may be.
func wantCheck(t *testing.T, what string, tr api.Trace, may bool) {
	t.Helper()
	want := api.ErrForm
	if may {
		want = api.OK
	}
	if got := trace.Check(tr); got != want {
		t.Errorf("%s: Check = %d, not %d", what, got, want)
	}
}

// --- P18.1 ---

func TestTracesThatMayBe(t *testing.T) {
	wantCheck(t, "two shares, no ops", api.Trace{N: 2}, true)
	wantCheck(t, "three shares, no ops", api.Trace{N: 3}, true)
	wantCheck(t, "empty lists", api.Trace{N: 2, Ops: []api.Op{}, Blocks: []api.Span{}}, true)
	wantCheck(t, "all kinds", pair(), true)
	wantCheck(t, "three shares", three(), true)
	for i, tr := range randoms() {
		wantCheck(t, fmt.Sprint("scattered trace ", i), tr, true)
	}
}

func TestOtherNumbersOfShares(t *testing.T) {
	for _, n := range otherShares() {
		wantCheck(t, fmt.Sprint(n, " shares, no ops"), api.Trace{N: n}, false)
		wantCheck(t, fmt.Sprint(n, " shares"), plain(n, 3), false)
	}
	// What is right of two shares is not of three, and the other way round.
	tr := pair()
	tr.N = 3
	wantCheck(t, "two shares, taken for three", tr, false)
	tr = three()
	tr.N = 2
	wantCheck(t, "three shares, taken for two", tr, false)
}

// TestOpsThatMayNotStand: one op that may not stand is seen wherever it is.
func TestOpsThatMayNotStand(t *testing.T) {
	for shares := 2; shares <= 3; shares++ {
		for at := range 9 {
			bad := map[string]api.Op{
				"no kind":            free(0, 0, 0),
				"kind 13":            free(13, 0, 0),
				"kind -1":            free(-1, 0, 0),
				"a zero op":          {},
				"domain -2":          free(api.Const, -2, 0),
				"a domain too many":  free(api.Const, shares, 0),
				"a constant of rand": free(api.Rand, 0, 1),
				"a move by 64":       one(api.Shl, 0, 0, 64),
				"its own register":   one(api.Not, 0, at, 0),
				"a later register":   one(api.Not, 0, at+1, 0),
				"no register":        one(api.Not, 0, -1, 0),
				"a register too few": one(api.Xor, 0, 0, 0),
				"one too many":       two(api.Not, 0, 0, 0),
				"a later second one": two(api.And, 0, 0, at),
				"an open's domain":   {Kind: api.Open, Dom: 0, A: 0, B: 0, D: -1},
				"a far constant":     {Kind: api.Key, Dom: 0, A: 0, B: -1, D: -1, C: 1 << 20},
			}
			for what, o := range bad {
				tr := plain(shares, 9)
				tr.Ops[at] = o
				wantCheck(t, fmt.Sprint(what, " at ", at), tr, false)
			}
		}
	}
}

// TestEachNumberOfAnOp: one number of one op is another one.
func TestEachNumberOfAnOp(t *testing.T) {
	may, mayNot := 0, 0
	numbers := append(far(), -3, -2, -1, 0, 1, 2, 3, 4, 5, 9, 12, 13, 17, 18)
	for _, tr := range []api.Trace{pair(), three()} {
		for at := range tr.Ops {
			for field := range 6 {
				for _, n := range numbers {
					other := copied(tr)
					o := &other.Ops[at]
					if field == 5 {
						o.C = uint64(n)
					} else {
						*[]*int{&o.Kind, &o.Dom, &o.A, &o.B, &o.D}[field] = n
					}
					want := mayBe(other)
					wantCheck(t, fmt.Sprintf("op %d: %+v", at, *o), other, want)
					if want {
						may++
					} else {
						mayNot++
					}
				}
			}
		}
	}
	if may < 100 || mayNot < 100 {
		t.Errorf("%d may be, %d may not", may, mayNot)
	}
}

func TestWordsOfKeysInOrder(t *testing.T) {
	for _, r := range []struct {
		constants []uint64
		may       bool
	}{
		{nil, true},
		{[]uint64{0}, true},
		{[]uint64{1}, false},
		{[]uint64{1<<20 - 1}, false},
		{[]uint64{0, 1}, true},
		{[]uint64{0, 0}, false},
		{[]uint64{0, 2}, false},
		{[]uint64{1, 0}, false},
		{[]uint64{1, 2}, false},
		{[]uint64{0, 1, 2}, true},
		{[]uint64{0, 1, 1}, false},
		{[]uint64{0, 1, 0}, false},
		{[]uint64{0, 2, 1}, false},
		{[]uint64{0, 1, 3}, false},
		{[]uint64{0, 1, 2, 3, 4, 5, 6}, true},
		{[]uint64{0, 1, 2, 3, 4, 5, 7}, false},
		{[]uint64{0, 1, 2, 3, 4, 5, 5}, false},
		{[]uint64{1, 2, 3, 4, 5, 6, 0}, false},
	} {
		for shares := 2; shares <= 3; shares++ {
			for between := range 3 {
				tr := plain(shares, 1)
				for _, c := range r.constants {
					o := one(api.Key, 0, 0, c)
					if shares == 3 {
						o.B = 0
					}
					tr.Ops = append(tr.Ops, o)
					for range between {
						// Constants of other kinds count for nothing.
						tr.Ops = append(tr.Ops, free(api.Told, 0, 77))
					}
				}
				wantCheck(t, fmt.Sprintf("keys %v, %d shares, %d between", r.constants, shares, between), tr, r.may)
				if len(r.constants) > 0 {
					// In blocks, and outside of them, it is the same order.
					tr.Blocks = []api.Span{{Kind: api.Encode, From: 1, To: 2}}
					wantCheck(t, fmt.Sprintf("keys %v, %d shares, %d between, a block", r.constants, shares, between), tr, r.may)
				}
			}
		}
	}
}

func TestBlocks(t *testing.T) {
	for _, r := range []struct {
		what   string
		blocks []api.Span
		may    bool
	}{
		{"the whole", []api.Span{{Kind: 1, From: 0, To: 6}}, true},
		{"kind 2", []api.Span{{Kind: 2, From: 0, To: 6}}, true},
		{"kind 3", []api.Span{{Kind: 3, From: 0, To: 6}}, true},
		{"the first op", []api.Span{{Kind: 1, From: 0, To: 1}}, true},
		{"the last op", []api.Span{{Kind: 1, From: 5, To: 6}}, true},
		{"side by side", []api.Span{{Kind: 1, From: 0, To: 3}, {Kind: 2, From: 3, To: 6}}, true},
		{"one behind each op", []api.Span{{Kind: 3, From: 0, To: 1}, {Kind: 3, From: 1, To: 2}, {Kind: 3, From: 2, To: 3}, {Kind: 1, From: 3, To: 4}, {Kind: 1, From: 4, To: 5}, {Kind: 1, From: 5, To: 6}}, true},
		{"ops between", []api.Span{{Kind: 3, From: 1, To: 2}, {Kind: 2, From: 4, To: 5}}, true},
		{"no op at the first place", []api.Span{{Kind: 1, From: 0, To: 0}}, false},
		{"no op", []api.Span{{Kind: 1, From: 3, To: 3}}, false},
		{"no op at the end", []api.Span{{Kind: 1, From: 6, To: 6}}, false},
		{"no op between two blocks", []api.Span{{Kind: 1, From: 0, To: 2}, {Kind: 1, From: 2, To: 2}, {Kind: 1, From: 2, To: 4}}, false},
		{"turned round", []api.Span{{Kind: 1, From: 4, To: 2}}, false},
		{"an op too far", []api.Span{{Kind: 1, From: 0, To: 7}}, false},
		{"the last op, and one too far", []api.Span{{Kind: 1, From: 5, To: 7}}, false},
		{"behind all ops", []api.Span{{Kind: 1, From: 6, To: 7}}, false},
		{"ahead of all ops", []api.Span{{Kind: 1, From: -1, To: 0}}, false},
		{"from ahead of all ops", []api.Span{{Kind: 1, From: -1, To: 2}}, false},
		{"over each other", []api.Span{{Kind: 1, From: 0, To: 3}, {Kind: 1, From: 2, To: 4}}, false},
		{"in each other", []api.Span{{Kind: 1, From: 0, To: 5}, {Kind: 1, From: 2, To: 4}}, false},
		{"twice", []api.Span{{Kind: 1, From: 0, To: 2}, {Kind: 1, From: 0, To: 2}}, false},
		{"the later one first", []api.Span{{Kind: 1, From: 3, To: 6}, {Kind: 1, From: 0, To: 3}}, false},
		{"the third one ahead of the second one", []api.Span{{Kind: 1, From: 0, To: 1}, {Kind: 1, From: 4, To: 5}, {Kind: 1, From: 2, To: 3}}, false},
		{"kind 0", []api.Span{{Kind: 0, From: 0, To: 6}}, false},
		{"kind 4", []api.Span{{Kind: 4, From: 0, To: 6}}, false},
		{"kind -1", []api.Span{{Kind: -1, From: 0, To: 6}}, false},
		{"kind 4 behind right ones", []api.Span{{Kind: 1, From: 0, To: 1}, {Kind: 2, From: 1, To: 2}, {Kind: 4, From: 2, To: 3}}, false},
		{"a zero block", []api.Span{{}}, false},
		{"a zero block behind a right one", []api.Span{{Kind: 1, From: 0, To: 6}, {}}, false},
	} {
		for shares := 2; shares <= 3; shares++ {
			tr := plain(shares, 6)
			tr.Blocks = r.blocks
			wantCheck(t, r.what, tr, r.may)
			// Without ops no block may be.
			wantCheck(t, r.what+", no ops", api.Trace{N: shares, Blocks: r.blocks}, false)
		}
	}
}

// TestAllSmallBlocks: all pairs of blocks about three ops, of right kinds and others.
func TestAllSmallBlocks(t *testing.T) {
	var spans []api.Span
	for kind := 0; kind <= 4; kind++ {
		for from := -1; from <= 4; from++ {
			for to := -1; to <= 4; to++ {
				spans = append(spans, api.Span{Kind: kind, From: from, To: to})
			}
		}
	}
	may := 0
	tr := plain(2, 3)
	for _, first := range spans {
		tr.Blocks = []api.Span{first}
		wantCheck(t, fmt.Sprint("block ", first), tr, mayBe(tr))
		for _, second := range spans {
			tr.Blocks = []api.Span{first, second}
			want := mayBe(tr)
			wantCheck(t, fmt.Sprint("blocks ", first, second), tr, want)
			if want {
				may++
			}
		}
	}
	// Of three ops five pairs of blocks may be, each block of three kinds.
	if may != 5*9 {
		t.Errorf("%d pairs of blocks may be", may)
	}
}

func TestFarBlocks(t *testing.T) {
	for _, tr := range []api.Trace{{N: 2}, pair()} {
		for _, n := range append(far(), -1, 0, 1, 18, 19) {
			for _, k := range append(far(), -1, 0, 1, 18, 19) {
				for _, kind := range append(far(), -1, 0, 1, 3, 4, 256+1, 1<<32+1) {
					other := copied(tr)
					other.Blocks = []api.Span{{Kind: kind, From: n, To: k}}
					wantCheck(t, fmt.Sprint(other.Blocks), other, mayBe(other))
					// The same block behind one that is right.
					if len(tr.Ops) > 0 {
						other.Blocks = append([]api.Span{{Kind: 1, From: 0, To: 1}}, other.Blocks...)
						wantCheck(t, fmt.Sprint(other.Blocks), other, mayBe(other))
					}
				}
			}
		}
	}
}

func TestMostOps(t *testing.T) {
	tr := plain(2, 1<<20)
	wantCheck(t, "2^20 ops", tr, true)
	tr.Blocks = []api.Span{{Kind: api.Times, From: 0, To: 1 << 20}}
	wantCheck(t, "2^20 ops in a block", tr, true)
	// What lies behind the list's length is not there.
	longer := append(tr.Ops, free(api.Const, 0, 3))
	tr.Ops = longer[:1<<20]
	wantCheck(t, "2^20 ops, and one behind", tr, true)
	tr.Ops = longer
	wantCheck(t, "2^20 + 1 ops", tr, false)
	tr.Blocks = nil
	wantCheck(t, "2^20 + 1 ops, no block", tr, false)
	if got := trace.Tally(tr)[api.Const]; got != 1<<20+1 {
		t.Errorf("of 2^20 + 1 ops %d are told", got)
	}
	for i := 1; i < 1<<20; i++ {
		tr.Ops[i] = one(api.Key, 0, i-1, uint64(i-1))
	}
	tr.Ops = tr.Ops[:1<<20]
	wantCheck(t, "2^20 - 1 words of keys", tr, true)
	if got := trace.Words(tr); got != 1<<20-1 {
		t.Errorf("of 2^20 - 1 words of keys %d are told", got)
	}
	tr.Ops[1<<20-1].C--
	wantCheck(t, "the last word of keys out of order", tr, false)
	tr.Ops[1<<20-1] = one(api.Not, 0, 1<<20-1, 0)
	wantCheck(t, "the last op of itself", tr, false)
}

// wantCounts holds what is counted of a trace against counts that are made kind by kind.
func wantCounts(t *testing.T, tr api.Trace) {
	t.Helper()
	var tally [13]int
	var opens []int
	for kind := 1; kind <= 12; kind++ {
		for i, o := range tr.Ops {
			if o.Kind == kind {
				tally[kind]++
				if kind == 12 {
					opens = append(opens, i)
				}
			}
		}
	}
	tally[0] = len(tr.Ops)
	for _, n := range tally[1:] {
		tally[0] -= n
	}
	if got := trace.Tally(tr); got != tally {
		t.Errorf("Tally = %v, not %v", got, tally)
	}
	if got := trace.Draws(tr); got != tally[1] {
		t.Errorf("Draws = %d, not %d", got, tally[1])
	}
	if got := trace.Words(tr); got != tally[2] {
		t.Errorf("Words = %d, not %d", got, tally[2])
	}
	if got := trace.Opens(tr); !slices.Equal(got, opens) {
		t.Errorf("Opens = %v, not %v", got, opens)
	}
}

func TestCounts(t *testing.T) {
	if got := trace.Tally(pair()); got != [13]int{0, 3, 2, 1, 1, 4, 1, 1, 1, 1, 1, 1, 1} {
		t.Errorf("Tally = %v", got)
	}
	if got := trace.Draws(pair()); got != 3 {
		t.Errorf("Draws = %d", got)
	}
	if got := trace.Words(pair()); got != 2 {
		t.Errorf("Words = %d", got)
	}
	if got := trace.Opens(pair()); !slices.Equal(got, []int{9}) {
		t.Errorf("Opens = %v", got)
	}
	if got := trace.Opens(three()); !slices.Equal(got, []int{3, 8}) {
		t.Errorf("Opens = %v", got)
	}
	for _, tr := range append(randoms(), wrongs()...) {
		wantCounts(t, tr)
	}
}

// TestCountsOfOneKind: of each kind alone, at each place of the tally.
func TestCountsOfOneKind(t *testing.T) {
	for kind := -20; kind <= 40; kind++ {
		for n := range 4 {
			tr := api.Trace{N: 2}
			for range n {
				tr.Ops = append(tr.Ops, api.Op{Kind: kind})
			}
			wantCounts(t, tr)
		}
	}
	for _, kind := range otherKinds() {
		tr := api.Trace{N: 3, Ops: []api.Op{{Kind: kind}, {Kind: 12}, {Kind: kind}}}
		if got := trace.Tally(tr); got != [13]int{0: 2, 12: 1} {
			t.Errorf("of kind %d: Tally = %v", kind, got)
		}
	}
}

func TestNoOpens(t *testing.T) {
	for _, tr := range []api.Trace{{}, {N: 2}, {N: 2, Ops: []api.Op{}}, plain(2, 5), {N: 2, Ops: []api.Op{{}, {Kind: 13}}}} {
		if got := trace.Opens(tr); len(got) != 0 {
			t.Errorf("Opens = %v", got)
		}
	}
}

// TestOpensAreNewMemory: what is told may be changed.
func TestOpensAreNewMemory(t *testing.T) {
	tr := three()
	was := trace.Opens(tr)
	other := trace.Opens(tr)
	other[0], other[1] = 77, 78
	if again := trace.Opens(tr); !slices.Equal(was, []int{3, 8}) || !slices.Equal(again, was) {
		t.Errorf("Opens = %v, and then %v", was, again)
	}
}

// --- P18.2 ---

// wantSame holds what is told of two traces, taken both ways round.
func wantSame(t *testing.T, what string, a, b api.Trace, want bool) {
	t.Helper()
	if got := trace.Same(a, b); got != want {
		t.Errorf("%s: Same = %t", what, got)
	}
	if got := trace.Same(b, a); got != want {
		t.Errorf("%s, the other way round: Same = %t", what, got)
	}
}

func TestSameAsItself(t *testing.T) {
	for i, tr := range append(randoms(), wrongs()...) {
		wantSame(t, fmt.Sprint("trace ", i), tr, copied(tr), true)
	}
	wantSame(t, "empty lists and none", api.Trace{N: 2}, api.Trace{N: 2, Ops: []api.Op{}, Blocks: []api.Span{}}, true)
}

func TestSameOfOtherShares(t *testing.T) {
	for _, n := range append(otherShares(), 3) {
		wantSame(t, fmt.Sprint("2 and ", n, " shares"), api.Trace{N: 2}, api.Trace{N: n}, false)
		wantSame(t, fmt.Sprint("2 and ", n, " shares, with ops"), plain(2, 4), plain(n, 4), false)
	}
}

// TestSameOfOtherOps: one number of one op is another one; what a told op tells is not looked at, and that alone.
func TestSameOfOtherOps(t *testing.T) {
	for _, tr := range append(randoms(), wrongs()...) {
		for at := range tr.Ops {
			for field := range 6 {
				for _, by := range []int{1, -1, 1 << 32, math.MinInt} {
					other := copied(tr)
					o := &other.Ops[at]
					told := false
					if field == 5 {
						told = o.Kind == 4
						o.C += uint64(by)
					} else {
						*[]*int{&o.Kind, &o.Dom, &o.A, &o.B, &o.D}[field] += by
					}
					if trace.Same(tr, other) != told || trace.Same(other, tr) != told {
						t.Fatalf("op %d: %+v and %+v: not %t", at, tr.Ops[at], *o, told)
					}
				}
			}
		}
	}
}

// TestSameOfToldOps: constants of told ops count for nothing, as many as there are.
func TestSameOfToldOps(t *testing.T) {
	constants := []uint64{0, 1, 1 << 32, 1 << 63, math.MaxUint64}
	for _, c := range constants {
		for _, e := range constants {
			a, b := three(), three()
			for at := 4; at <= 6; at++ {
				a.Ops[at].C, b.Ops[at].C = c, e+uint64(at)
			}
			wantSame(t, fmt.Sprint("told ", c, " and ", e), a, b, true)
			a.Ops[5].Dom = 0
			wantSame(t, fmt.Sprint("told ", c, " and ", e, ", of another domain"), a, b, false)
			a.Ops[5].Dom = b.Ops[5].Dom
			a.Ops[5].Kind = api.Const
			wantSame(t, fmt.Sprint("const ", c, " and told ", e), a, b, false)
			b.Ops[5].Kind = api.Const
			wantSame(t, fmt.Sprint("const ", c, " and const ", e), a, b, a.Ops[5].C == b.Ops[5].C)
		}
	}
}

func TestSameOfOtherLengths(t *testing.T) {
	for n := range 6 {
		for k := range 6 {
			wantSame(t, fmt.Sprint(n, " and ", k, " ops"), plain(2, n), plain(2, k), n == k)
			// Of told ops, too.
			a, b := plain(2, n), plain(2, k)
			for _, ops := range [][]api.Op{a.Ops, b.Ops} {
				for i := range ops {
					ops[i].Kind = api.Told
				}
			}
			wantSame(t, fmt.Sprint(n, " and ", k, " told ops"), a, b, n == k)
			a, b = plain(2, 6), plain(2, 6)
			for i := range max(n, k) {
				block := api.Span{Kind: api.Fresh, From: i, To: i + 1}
				if i < n {
					a.Blocks = append(a.Blocks, block)
				}
				if i < k {
					b.Blocks = append(b.Blocks, block)
				}
			}
			wantSame(t, fmt.Sprint(n, " and ", k, " blocks"), a, b, n == k)
		}
	}
}

func TestSameOfOtherOrders(t *testing.T) {
	a, b := pair(), pair()
	b.Ops[10], b.Ops[11] = b.Ops[11], b.Ops[10]
	wantSame(t, "ops turned round", a, b, false)
	b = pair()
	b.Blocks[0], b.Blocks[1] = b.Blocks[1], b.Blocks[0]
	wantSame(t, "blocks turned round", a, b, false)
}

func TestSameOfOtherBlocks(t *testing.T) {
	for _, tr := range append(randoms(), wrongs()...) {
		for i := range tr.Blocks {
			for field := range 3 {
				for _, by := range []int{1, -1, 1 << 32, math.MinInt} {
					other := copied(tr)
					b := &other.Blocks[i]
					*[]*int{&b.Kind, &b.From, &b.To}[field] += by
					if trace.Same(tr, other) || trace.Same(other, tr) {
						t.Fatalf("blocks %+v and %+v are told to be the same", tr.Blocks[i], *b)
					}
				}
			}
		}
	}
}

// TestSameLooksAtNothingBehind: what lies behind a list's length is not there.
func TestSameLooksAtNothingBehind(t *testing.T) {
	a, b := plain(2, 5), plain(2, 5)
	a.Ops[3].C, a.Ops[4].Kind = 9, 12
	a.Blocks, b.Blocks = []api.Span{{Kind: 1, From: 0, To: 1}, {Kind: 2, From: 1, To: 2}}, []api.Span{{Kind: 1, From: 0, To: 1}, {Kind: 3, From: 1, To: 2}}
	a.Ops, b.Ops, a.Blocks, b.Blocks = a.Ops[:3], b.Ops[:3], a.Blocks[:1], b.Blocks[:1]
	wantSame(t, "unlike behind the end", a, b, true)
	if got := trace.Opens(a); len(got) != 0 {
		t.Errorf("behind the end an open op is told: %v", got)
	}
	if _, ok := trace.In(a, 1); ok {
		t.Error("behind the end a block is told")
	}
}

// within is which block has a place, found the long way: all that have it are listed.
func within(blocks []api.Span, at int) (int, bool) {
	var all []int
	for i, b := range blocks {
		if !(b.From > at) && b.To > at {
			all = append(all, i)
		}
	}
	if len(all) == 0 {
		return 0, false
	}
	return all[0], true
}

// wantIn holds what is told of a place against the long way.
func wantIn(t *testing.T, tr api.Trace, at int) {
	t.Helper()
	got, ok := trace.In(tr, at)
	if want, may := within(tr.Blocks, at); got != want || ok != may {
		t.Errorf("blocks %v: In of %d = %d, %t", tr.Blocks, at, got, ok)
	}
}

func TestIn(t *testing.T) {
	blocks := []int{0, 0, 1, 1, -1, -1, 2, 2, 2, -1, -1, -1, -1, -1, -1, -1, -1, 3, -1, -1}
	for at, want := range blocks {
		got, ok := trace.In(pair(), at)
		if want == -1 && (got != 0 || ok) || want != -1 && (got != want || !ok) {
			t.Errorf("In of %d = %d, %t", at, got, ok)
		}
	}
	for _, tr := range append(randoms(), wrongs()...) {
		for at := -7; at < len(tr.Ops)+7; at++ {
			wantIn(t, tr, at)
		}
		for _, at := range far() {
			wantIn(t, tr, at)
		}
	}
}

// TestInOfNoBlocks: with ops and without.
func TestInOfNoBlocks(t *testing.T) {
	for _, tr := range []api.Trace{{}, {N: 2}, {N: 2, Blocks: []api.Span{}}, plain(2, 5)} {
		for _, at := range append(far(), -1, 0, 1, 4, 5) {
			if got, ok := trace.In(tr, at); got != 0 || ok {
				t.Errorf("In of %d = %d, %t", at, got, ok)
			}
		}
	}
}

// TestInWithoutOps: whether there is an op is not looked at.
func TestInWithoutOps(t *testing.T) {
	tr := api.Trace{Blocks: []api.Span{{From: 5, To: 7}, {Kind: 77, From: -4, To: -2}, {From: math.MaxInt - 1, To: math.MaxInt}, {From: math.MinInt, To: math.MinInt + 1}}}
	for at, want := range map[int]int{5: 0, 6: 0, -4: 1, -3: 1, math.MaxInt - 1: 2, math.MinInt: 3} {
		if got, ok := trace.In(tr, at); got != want || !ok {
			t.Errorf("In of %d = %d, %t", at, got, ok)
		}
	}
	for _, at := range []int{4, 7, -5, -2, 0, math.MaxInt - 2, math.MaxInt, math.MinInt + 1} {
		if got, ok := trace.In(tr, at); got != 0 || ok {
			t.Errorf("In of %d = %d, %t", at, got, ok)
		}
	}
}

// TestInOfAllSmall: all rows of three blocks about four places, in any order and over each other.
func TestInOfAllSmall(t *testing.T) {
	var spans []api.Span
	for from := -1; from <= 3; from++ {
		for to := -1; to <= 3; to++ {
			spans = append(spans, api.Span{From: from, To: to})
		}
	}
	for _, first := range spans {
		for _, second := range spans {
			for _, third := range spans {
				tr := api.Trace{Blocks: []api.Span{first, second, third}}
				for at := -2; at <= 4; at++ {
					wantIn(t, tr, at)
				}
			}
		}
	}
}

// --- P18.3 ---

// TestSameIsToldBothWays: of all pairs of some traces.
func TestSameIsToldBothWays(t *testing.T) {
	all := append(randoms(), wrongs()...)
	all = append(all, randoms()...)
	same := 0
	for _, a := range all {
		for _, b := range all {
			ab, ba := trace.Same(a, b), trace.Same(b, a)
			if ab != ba {
				t.Fatal("one way round traces are told to be the same, the other way not")
			}
			if ab {
				same++
			}
		}
	}
	// Each trace is the same as itself; those that are there twice are the same as their twins.
	if least := 4*len(randoms()) + len(wrongs()); same < least {
		t.Errorf("of %d pairs %d are the same", len(all)*len(all), same)
	}
}

func TestTallyIsAsManyAsThereAreOps(t *testing.T) {
	for _, tr := range append(randoms(), wrongs()...) {
		sum := 0
		for _, n := range trace.Tally(tr) {
			sum += n
		}
		if sum != len(tr.Ops) {
			t.Errorf("of %d ops %d are in the tally", len(tr.Ops), sum)
		}
	}
}

// --- What holds everywhere ---

// TestNothingIsChanged: a trace is as it was behind each call.
func TestNothingIsChanged(t *testing.T) {
	for _, tr := range append(randoms(), wrongs()...) {
		was := copied(tr)
		other := copied(tr)
		for i := range other.Ops {
			// Unlike constants of told ops are not made alike in what is given.
			other.Ops[i].C += 5
		}
		otherWas := copied(other)
		trace.Check(tr)
		trace.Draws(tr)
		trace.Words(tr)
		trace.Opens(tr)
		trace.Tally(tr)
		trace.Same(tr, other)
		trace.In(tr, 3)
		if tr.N != was.N || !slices.Equal(tr.Ops, was.Ops) || !slices.Equal(tr.Blocks, was.Blocks) || !slices.Equal(other.Ops, otherWas.Ops) {
			t.Fatal("a trace was changed")
		}
	}
}

func TestManyAskAtOnce(t *testing.T) {
	tr := pair()
	var group sync.WaitGroup
	for range 16 {
		group.Go(func() {
			for range 50 {
				block, ok := trace.In(tr, 7)
				if trace.Check(tr) != api.OK || trace.Draws(tr) != 3 || trace.Words(tr) != 2 || !slices.Equal(trace.Opens(tr), []int{9}) || !trace.Same(tr, tr) || block != 2 || !ok {
					t.Error("with others at once, a trace is told otherwise")
				}
			}
		})
	}
	group.Wait()
}
