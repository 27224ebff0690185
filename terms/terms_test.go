package terms_test

import (
	"fmt"
	"math"
	"slices"
	"sync"
	"testing"

	"visor/api"
	"visor/fresh"
	"visor/op"
	"visor/share"
	"visor/tape"
	"visor/terms"
	"visor/times"
	"visor/wire"
)

// farWords is words at their ends, and some between.
func farWords() []uint64 {
	return []uint64{0, 1, 2, 63, 64, 1<<32 - 1, 1 << 32, 1<<63 - 1, 1 << 63, math.MaxUint64 - 1, math.MaxUint64, 0xfedcba9876543210}
}

// far is numbers that are far from each place, and those next to what fewer bits bring back to one.
func far() []int {
	return []int{math.MinInt, math.MinInt + 1, -1 << 62, -1 << 32, -1<<32 + 1, 256, 256 + 2, 65536 + 1, 1 << 32, 1<<32 + 1, 1<<32 + 2, 1 << 62, math.MaxInt - 1, math.MaxInt}
}

// otherKinds is numbers of kinds of ops of which no block is, among them those that come round to one in fewer bits.
func otherKinds() []int {
	return []int{3, 4, 6, 8, 9, 10, 11, 12, 0, -1, -2, -5, 13, 14, 16, 256 + 1, 65536 + 5, 1<<32 + 1, 1<<32 + 5, -1<<32 + 7, math.MaxInt, math.MinInt, math.MinInt + 5}
}

// otherShares is numbers of shares other than 3, of which a key op is of one register.
func otherShares() []int {
	return []int{0, 1, 2, 4, 5, -1, -3, 256 + 3, 1<<32 + 3, math.MaxInt, math.MinInt, math.MinInt + 3}
}

// scatter tells numbers, one behind the other, such as a rule scatters.
func scatter(seed uint64) func(below int) int {
	return func(below int) int {
		seed = seed*6364136223846793005 + 1442695040888963407
		return int(seed >> 33 % uint64(below))
	}
}

// someWords is n words that a rule scatters.
func someWords(seed uint64, n int) []uint64 {
	pick := scatter(seed)
	out := make([]uint64, n)
	for i := range out {
		out[i] = uint64(pick(1<<31))<<33 ^ uint64(pick(1<<31))<<16 ^ uint64(pick(1<<31))
	}
	return out
}

// is holds what a call tells against what it should.
func is[T comparable](t *testing.T, what string, got, want T) {
	t.Helper()
	if got != want {
		t.Errorf("%s: %v, not %v", what, got, want)
	}
}

// are holds a list against what it should be.
func are[T comparable](t *testing.T, what string, got []T, want ...T) {
	t.Helper()
	if !slices.Equal(got, want) {
		t.Errorf("%s: %v, not %v", what, got, want)
	}
}

// wantTable holds a table against what it should be.
func wantTable(t *testing.T, what string, got terms.Table, e api.Errno, want terms.Table) {
	t.Helper()
	is(t, what+": the error", e, api.OK)
	are(t, what+": masks", got.Masks, want.Masks...)
	are(t, what+": terms", got.Terms, want.Terms...)
	are(t, what+": forms", got.Forms, want.Forms...)
}

// refused holds that there is no table: ErrForm, and nothing beside it.
func refused(t *testing.T, what string, tr api.Trace, b api.Span) {
	t.Helper()
	got, e := terms.Of(tr, b)
	is(t, what+": the error", e, api.ErrForm)
	if got.Masks != nil || got.Terms != nil || got.Forms != nil {
		t.Errorf("%s: beside an error %+v is told", what, got)
	}
}

// taken holds that there is a table, and tells it.
func taken(t *testing.T, what string, tr api.Trace, b api.Span) terms.Table {
	t.Helper()
	got, e := terms.Of(tr, b)
	is(t, what+": the error", e, api.OK)
	return got
}

// rand, key, xor and and are ops; numbers that do not count are wrong.
func rand() api.Op        { return api.Op{Kind: 1, Dom: 77, A: -9, B: -9, D: -9, C: 5} }
func key(a, b int) api.Op { return api.Op{Kind: 2, Dom: -7, A: a, B: b, D: 1 << 40, C: 99} }
func xor(a, b int) api.Op { return api.Op{Kind: 5, Dom: 1 << 50, A: a, B: b, D: 3, C: 1} }
func and(a, b int) api.Op { return api.Op{Kind: 7, Dom: -2, A: a, B: b, D: -5, C: 1 << 63} }

// behind is a trace of n shares whose block stands behind so many ops that are no op of a block, and ahead of one more.
func behind(n, ahead int, ops ...api.Op) (api.Trace, api.Span) {
	t := api.Trace{N: n}
	for range ahead {
		t.Ops = append(t.Ops, api.Op{})
	}
	t.Ops = append(t.Ops, ops...)
	t.Ops = append(t.Ops, api.Op{Kind: 77, A: -1})
	return t, api.Span{Kind: -3, From: ahead, To: ahead + len(ops)}
}

// bits is a form of masks and terms, by their numbers.
func bits(masks, parts []int) terms.Form {
	f := terms.Form{}
	for _, n := range masks {
		f.Masks += 1 << n
	}
	for _, n := range parts {
		f.Terms += 1 << n
	}
	return f
}

// of is a form, by its masks' numbers, and its terms'.
func of(masks ...int) func(parts ...int) terms.Form {
	return func(parts ...int) terms.Form { return bits(masks, parts) }
}

// --- the chapter's words, the long way ---

// registersOf is the registers that count of an op, and whether there is such a kind in blocks.
func registersOf(o api.Op, n int) ([]int, bool) {
	switch {
	case o.Kind == 1:
		return nil, true
	case o.Kind == 2 && n != 3:
		return []int{o.A}, true
	case o.Kind == 2, o.Kind == 5, o.Kind == 7:
		return []int{o.A, o.B}, true
	}
	return nil, false
}

// mayBe tells whether a block has a table, but for how many masks and terms there are.
func mayBe(t api.Trace, b api.Span) bool {
	if !(0 <= b.From && b.From < b.To && b.To <= len(t.Ops)) {
		return false
	}
	for at, o := range t.Ops {
		if at < b.From || at >= b.To {
			continue
		}
		l, known := registersOf(o, t.N)
		for _, r := range l {
			earlier := 0 <= r && r <= at-1
			made := b.From <= r && r < b.To
			known = known && earlier && !(o.Kind == 7 && made)
		}
		if !known {
			return false
		}
	}
	return true
}

// leaf is a mask (B is -3) or a term.
type leaf = terms.Term

// leaves is all that a register is put together of, each as often as it comes, without anything being taken away.
func leaves(t api.Trace, b api.Span, r int) []leaf {
	if r < b.From {
		return []leaf{{A: r, B: -1}}
	}
	o := t.Ops[r]
	switch o.Kind {
	case 1:
		return []leaf{{A: r, B: -3}}
	case 7:
		return []leaf{{A: o.A, B: o.B}}
	}
	var out []leaf
	l, _ := registersOf(o, t.N)
	for _, one := range l {
		out = append(out, leaves(t, b, one)...)
	}
	if o.Kind == 2 {
		out = append(out, leaf{A: r, B: -2})
	}
	return out
}

// model is a block's table by the chapter's words, and whether there is one.
func model(t api.Trace, b api.Span) (terms.Table, bool) {
	if !mayBe(t, b) {
		return terms.Table{}, false
	}
	var out terms.Table
	for at := b.From; at < b.To; at++ {
		for _, x := range leaves(t, b, at) {
			switch {
			case x.B == -3 && !slices.Contains(out.Masks, x.A):
				out.Masks = append(out.Masks, x.A)
			case x.B != -3 && !slices.Contains(out.Terms, x):
				out.Terms = append(out.Terms, x)
			}
		}
	}
	if len(out.Masks) > 32 || len(out.Terms) > 32 {
		return terms.Table{}, false
	}
	for at := b.From; at < b.To; at++ {
		f := terms.Form{}
		for _, x := range leaves(t, b, at) {
			if x.B == -3 {
				f.Masks ^= 1 << slices.Index(out.Masks, x.A)
			} else {
				f.Terms ^= 1 << slices.Index(out.Terms, x)
			}
		}
		out.Forms = append(out.Forms, f)
	}
	return out, true
}

// wantModel holds a block's table against the long way, and tells whether there is one.
func wantModel(t *testing.T, tr api.Trace, b api.Span) bool {
	t.Helper()
	want, may := model(tr, b)
	got, e := terms.Of(tr, b)
	if may && (e != api.OK || !slices.Equal(got.Masks, want.Masks) || !slices.Equal(got.Terms, want.Terms) || !slices.Equal(got.Forms, want.Forms)) {
		t.Fatalf("block %v of %+v: %+v, %d, not %+v", b, tr, got, e, want)
	}
	if !may && (e != api.ErrForm || got.Masks != nil || got.Terms != nil || got.Forms != nil) {
		t.Fatalf("block %v of %+v: %+v, %d, and there is none", b, tr, got, e)
	}
	return may
}

// --- gadgets ---

// gadget is a gadget on a machine of n shares, behind the shares of two words (registers 0, 1 and so on of the first one, then the second one's), and its table.
type gadget struct {
	what string
	n    int
	do   func(m *wire.Machine, a, b api.Word)
	want terms.Table
}

func encoded(m *wire.Machine, a, b api.Word)    { share.Encode(m, 7) }
func full(m *wire.Machine, a, b api.Word)       { fresh.Full(m, a) }
func simple(m *wire.Machine, a, b api.Word)     { fresh.Simple(m, b) }
func byIsw(m *wire.Machine, a, b api.Word)      { times.Isw(m, a, b) }
func byDom(m *wire.Machine, a, b api.Word)      { times.Dom(m, a, b) }
func swapped(m *wire.Machine, a, b api.Word)    { times.Dom(m, b, a) }
func withItself(m *wire.Machine, a, b api.Word) { times.Dom(m, a, a) }

// pairGadgets is gadgets of two shares: the words' registers are 0 and 1, and 2 and 3, so that the block begins with register 4.
func pairGadgets() []gadget {
	return []gadget{
		{"encode", 2, encoded, terms.Table{
			Masks: []int{4},
			Terms: []terms.Term{{A: 5, B: -2}},
			Forms: []terms.Form{of(0)(), of(0)(0)},
		}},
		{"full", 2, full, terms.Table{
			Masks: []int{4},
			Terms: []terms.Term{{A: 0, B: -1}, {A: 1, B: -1}},
			Forms: []terms.Form{of(0)(), of(0)(0), of(0)(1)},
		}},
		{"isw", 2, byIsw, terms.Table{
			Masks: []int{4},
			Terms: []terms.Term{{A: 0, B: 2}, {A: 0, B: 3}, {A: 1, B: 2}, {A: 1, B: 3}},
			Forms: []terms.Form{
				of(0)(),
				of()(0), of()(1), of()(2), of()(3),
				of(0)(0),
				of(0)(1), of(0)(1, 2), of(0)(1, 2, 3),
			},
		}},
		{"dom", 2, byDom, terms.Table{
			Masks: []int{4},
			Terms: []terms.Term{{A: 0, B: 2}, {A: 0, B: 3}, {A: 1, B: 2}, {A: 1, B: 3}},
			Forms: []terms.Form{
				of(0)(),
				of()(0), of()(1), of()(2), of()(3),
				of(0)(1), of(0)(0, 1),
				of(0)(2), of(0)(2, 3),
			},
		}},
		{"dom, swapped", 2, swapped, terms.Table{
			Masks: []int{4},
			Terms: []terms.Term{{A: 2, B: 0}, {A: 2, B: 1}, {A: 3, B: 0}, {A: 3, B: 1}},
			Forms: []terms.Form{
				of(0)(),
				of()(0), of()(1), of()(2), of()(3),
				of(0)(1), of(0)(0, 1),
				of(0)(2), of(0)(2, 3),
			},
		}},
		{"dom, with itself", 2, withItself, terms.Table{
			Masks: []int{4},
			Terms: []terms.Term{{A: 0, B: 0}, {A: 0, B: 1}, {A: 1, B: 0}, {A: 1, B: 1}},
			Forms: []terms.Form{
				of(0)(),
				of()(0), of()(1), of()(2), of()(3),
				of(0)(1), of(0)(0, 1),
				of(0)(2), of(0)(2, 3),
			},
		}},
	}
}

// tripleGadgets is gadgets of three shares: the words' registers are 0 to 2, and 3 to 5, so that the block begins with register 6.
func tripleGadgets() []gadget {
	products := []terms.Term{{A: 0, B: 3}, {A: 0, B: 4}, {A: 0, B: 5}, {A: 1, B: 3}, {A: 1, B: 4}, {A: 1, B: 5}, {A: 2, B: 3}, {A: 2, B: 4}, {A: 2, B: 5}}
	first := []terms.Form{
		of(0)(), of(1)(), of(2)(),
		of()(0), of()(1), of()(2), of()(3), of()(4), of()(5), of()(6), of()(7), of()(8),
	}
	return []gadget{
		{"encode", 3, encoded, terms.Table{
			Masks: []int{6, 7},
			Terms: []terms.Term{{A: 8, B: -2}},
			Forms: []terms.Form{of(0)(), of(1)(), of(0, 1)(0)},
		}},
		{"full", 3, full, terms.Table{
			Masks: []int{6, 7, 8},
			Terms: []terms.Term{{A: 0, B: -1}, {A: 1, B: -1}, {A: 2, B: -1}},
			Forms: []terms.Form{
				of(0)(), of(1)(), of(2)(),
				of(0)(0), of(0, 1)(0),
				of(0)(1), of(0, 2)(1),
				of(1)(2), of(1, 2)(2),
			},
		}},
		{"simple", 3, simple, terms.Table{
			Masks: []int{6, 7},
			Terms: []terms.Term{{A: 3, B: -1}, {A: 4, B: -1}, {A: 5, B: -1}},
			Forms: []terms.Form{of(0)(), of(1)(), of(0)(0), of(0, 1)(0), of(0)(1), of(1)(2)},
		}},
		{"isw", 3, byIsw, terms.Table{
			Masks: []int{6, 7, 8},
			Terms: products,
			Forms: slices.Concat(first, []terms.Form{
				of(0)(0), of(0, 1)(0),
				of(0)(1), of(0)(1, 3), of(0)(1, 3, 4), of(0, 2)(1, 3, 4),
				of(1)(2), of(1)(2, 6), of(1)(2, 6, 8), of(2)(5), of(2)(5, 7), of(1, 2)(2, 5, 6, 7, 8),
			}),
		}},
		{"dom", 3, byDom, terms.Table{
			Masks: []int{6, 7, 8},
			Terms: products,
			Forms: slices.Concat(first, []terms.Form{
				of(0)(1), of(0)(0, 1), of(1)(2), of(0, 1)(0, 1, 2),
				of(0)(3), of(0)(3, 4), of(2)(5), of(0, 2)(3, 4, 5),
				of(1)(6), of(1)(6, 8), of(2)(7), of(1, 2)(6, 7, 8),
			}),
		}},
	}
}

// gadgets is all of them.
func gadgets() []gadget { return append(pairGadgets(), tripleGadgets()...) }

// played is a machine on which a gadget is, with words that stand ahead of it.
func played(t *testing.T, g gadget, words, masks []uint64) *wire.Machine {
	t.Helper()
	drawn := tape.New(masks)
	drawn.Reserve(len(masks))
	m, e := wire.New(g.n, drawn, 100)
	if e != api.OK {
		t.Fatalf("%s: New: %d", g.what, e)
	}
	l := [2]api.Word{{R: [3]int{-1, -1, -1}}, {R: [3]int{-1, -1, -1}}}
	for i := range l {
		for s := range g.n {
			l[i].R[s] = m.Const(s, words[g.n*i+s])
		}
	}
	g.do(m, l[0], l[1])
	is(t, g.what+": Err", m.Err(), api.OK)
	return m
}

// TestGadgets: the table of each gadget, form by form.
func TestGadgets(t *testing.T) {
	for _, g := range gadgets() {
		what := fmt.Sprint(g.what, ", ", g.n, " shares")
		tr := played(t, g, someWords(3, 6), someWords(4, 3)).Trace()
		is(t, what+": blocks", len(tr.Blocks), 1)
		got, e := terms.Of(tr, tr.Blocks[0])
		wantTable(t, what, got, e, g.want)
		wantModel(t, tr, tr.Blocks[0])
	}
}

// TestExample: the chapter's example.
func TestExample(t *testing.T) {
	tr := api.Trace{N: 2, Ops: []api.Op{
		{Kind: api.Const, A: -1, B: -1, D: -1, C: 5},
		{Kind: api.Rand, Dom: -1, A: -1, B: -1, D: -1},
		{Kind: api.Xor, A: 0, B: 1, D: -1},
	}}
	got, e := terms.Of(tr, api.Span{Kind: api.Fresh, From: 1, To: 3})
	wantTable(t, "rand, xor", got, e, terms.Table{
		Masks: []int{1},
		Terms: []terms.Term{{A: 0, B: -1}},
		Forms: []terms.Form{{Masks: 1}, {Masks: 1, Terms: 1}},
	})
}

// --- P25.1: kinds of ops ---

// TestRand: each rand op is a mask of its own, in order, and its registers do not count.
func TestRand(t *testing.T) {
	tr, b := behind(2, 3, rand(), rand(), and(0, 1), rand())
	got, e := terms.Of(tr, b)
	wantTable(t, "three masks", got, e, terms.Table{
		Masks: []int{3, 4, 6},
		Terms: []terms.Term{{A: 0, B: 1}},
		Forms: []terms.Form{of(0)(), of(1)(), of()(0), of(2)()},
	})
}

// TestXor: of registers made ahead of the block, and in it, and of one twice.
func TestXor(t *testing.T) {
	tr, b := behind(3, 2,
		xor(1, 0), // 2: both are terms, A first
		rand(),    // 3
		xor(2, 3), // 4
		xor(4, 1), // 5: what both have is gone
		xor(0, 5), // 6: a mask alone
		xor(6, 3), // 7: nothing
		xor(7, 7), // 8
		xor(4, 2), // 9
		xor(8, 0), // 10
	)
	got, e := terms.Of(tr, b)
	wantTable(t, "sums", got, e, terms.Table{
		Masks: []int{3},
		Terms: []terms.Term{{A: 1, B: -1}, {A: 0, B: -1}},
		Forms: []terms.Form{of()(0, 1), of(0)(), of(0)(0, 1), of(0)(1), of(0)(), of()(), of()(), of(0)(), of()(1)},
	})
}

// TestTermsThatAreGone: a register that is put to itself is a term nevertheless, and has its number.
func TestTermsThatAreGone(t *testing.T) {
	tr, b := behind(3, 4, xor(2, 2), xor(3, 1), key(0, 0))
	got, e := terms.Of(tr, b)
	wantTable(t, "gone", got, e, terms.Table{
		Terms: []terms.Term{{A: 2, B: -1}, {A: 3, B: -1}, {A: 1, B: -1}, {A: 0, B: -1}, {A: 6, B: -2}},
		Forms: []terms.Form{of()(), of()(1, 2), of()(4)},
	})
}

// TestAnd: both registers are one term, by their order, beside each register alone.
func TestAnd(t *testing.T) {
	tr, b := behind(2, 3, and(1, 2), and(2, 1), and(1, 1), and(1, 2), xor(1, 2), xor(3, 6), xor(3, 4), xor(5, 1))
	got, e := terms.Of(tr, b)
	wantTable(t, "products", got, e, terms.Table{
		Terms: []terms.Term{{A: 1, B: 2}, {A: 2, B: 1}, {A: 1, B: 1}, {A: 1, B: -1}, {A: 2, B: -1}},
		Forms: []terms.Form{of()(0), of()(1), of()(2), of()(0), of()(3, 4), of()(), of()(0, 1), of()(2, 3)},
	})
}

// TestKey: of two shares a key op is of one register, of three of two, of which what both have is gone; its own term comes behind theirs, by its place.
func TestKey(t *testing.T) {
	ops := []api.Op{rand(), rand(), key(5, 6), key(5, 5), key(3, 4), key(7, 6), key(8, 3), xor(9, 9), key(11, 2)}
	tr, b := behind(3, 5, ops...)
	got, e := terms.Of(tr, b)
	wantTable(t, "three shares", got, e, terms.Table{
		Masks: []int{5, 6},
		Terms: []terms.Term{{A: 7, B: -2}, {A: 8, B: -2}, {A: 3, B: -1}, {A: 4, B: -1}, {A: 9, B: -2}, {A: 10, B: -2}, {A: 11, B: -2}, {A: 2, B: -1}, {A: 13, B: -2}},
		Forms: []terms.Form{of(0)(), of(1)(), of(0, 1)(0), of()(1), of()(2, 3, 4), of(0)(0, 5), of()(1, 2, 6), of()(), of()(1, 2, 6, 7, 8)},
	})
	for _, n := range otherShares() {
		tr.N = n
		got, e := terms.Of(tr, b)
		wantTable(t, fmt.Sprint(n, " shares"), got, e, terms.Table{
			Masks: []int{5, 6},
			Terms: []terms.Term{{A: 7, B: -2}, {A: 8, B: -2}, {A: 3, B: -1}, {A: 9, B: -2}, {A: 10, B: -2}, {A: 11, B: -2}, {A: 13, B: -2}},
			Forms: []terms.Form{of(0)(), of(1)(), of(0)(0), of(0)(1), of()(2, 3), of(0)(0, 4), of(0)(1, 5), of()(), of(0)(1, 5, 6)},
		})
	}
}

// TestKeysRegistersThatDoNotCount: of other than three shares B of a key op may be anything, of three it may not.
func TestKeysRegistersThatDoNotCount(t *testing.T) {
	for _, r := range append(far(), -3, -2, -1, 0, 1, 2, 3, 4, 5, 6) {
		tr, b := behind(3, 4, key(0, r))
		want := r >= 0 && r < 4
		is(t, fmt.Sprint("three shares, B ", r), wantModel(t, tr, b), want)
		for _, n := range otherShares() {
			tr.N = n
			what := fmt.Sprint(n, " shares, B ", r)
			is(t, what, wantModel(t, tr, b), true)
			are(t, what+": terms", taken(t, what, tr, b).Terms, terms.Term{A: 0, B: -1}, terms.Term{A: 4, B: -2})
		}
	}
}

// TestEachTermOnce: a term that comes again has the number that it had, even far behind.
func TestEachTermOnce(t *testing.T) {
	ops := []api.Op{xor(0, 1), xor(1, 0), and(1, 0), xor(2, 0)}
	for range 3 {
		ops = append(ops, ops...)
	}
	tr, b := behind(2, 3, ops...)
	got := taken(t, "again and again", tr, b)
	are(t, "terms", got.Terms, terms.Term{A: 0, B: -1}, terms.Term{A: 1, B: -1}, terms.Term{A: 1, B: 0}, terms.Term{A: 2, B: -1})
	for i, f := range got.Forms {
		is(t, fmt.Sprint("form ", i), f, []terms.Form{of()(0, 1), of()(0, 1), of()(2), of()(3, 0)}[i%4])
	}
}

// --- P25.1: blocks that do not lie within the ops ---

// sums is n ops that may stand in any block behind the first op.
func sums(n int) []api.Op {
	out := []api.Op{rand()}
	for range n - 1 {
		out = append(out, xor(0, 0))
	}
	return out
}

func TestWhereBlocksLie(t *testing.T) {
	for n := range 6 {
		tr := api.Trace{N: 2}
		if n > 0 {
			tr.Ops = sums(n)
		}
		places := append(far(), -2, -1, 0, 1, 2, 3, 4, 5, 6, 7)
		for _, from := range places {
			for _, to := range places {
				b := api.Span{Kind: 1, From: from, To: to}
				what := fmt.Sprint(n, " ops, a block ", from, " to ", to)
				if 0 <= from && from < to && to <= n {
					is(t, what+": how many forms", len(taken(t, what, tr, b).Forms), to-from)
				} else {
					refused(t, what, tr, b)
				}
			}
		}
	}
	refused(t, "nothing", api.Trace{}, api.Span{})
}

// TestBehindTheLength: what lies behind the ops' length is not there.
func TestBehindTheLength(t *testing.T) {
	tr := api.Trace{N: 2, Ops: sums(6)[:4]}
	taken(t, "up to the end", tr, api.Span{From: 1, To: 4})
	refused(t, "one behind", tr, api.Span{From: 1, To: 5})
}

// --- P25.1: ops that may not be ---

// TestOtherKinds: at each place of a block; outside of it they count for nothing.
func TestOtherKinds(t *testing.T) {
	for _, n := range []int{2, 3} {
		for _, kind := range otherKinds() {
			for at := range 9 {
				tr := api.Trace{N: n, Ops: sums(9)}
				for _, o := range []api.Op{{Kind: kind}, {Kind: kind, A: -1, B: -1, D: -1, Dom: -1}} {
					tr.Ops[at] = o
					what := fmt.Sprint("kind ", kind, " at ", at)
					b := api.Span{Kind: 2, From: 3, To: 7}
					if at >= 3 && at < 7 {
						refused(t, what, tr, b)
					} else {
						taken(t, what, tr, b)
					}
				}
			}
		}
	}
}

// TestRegistersThatAreNotThere: each register that counts must be an earlier op's.
func TestRegistersThatAreNotThere(t *testing.T) {
	numbers := append(far(), -3, -2, -1, 0, 1, 2, 3, 4, 5, 6, 7, 8, 9)
	kinds := map[string]func(a, b int) api.Op{"xor": xor, "and": and, "key": key}
	for at := range 4 {
		for name, build := range kinds {
			for _, r := range numbers {
				for _, first := range []bool{true, false} {
					ops := []api.Op{rand(), rand(), rand(), rand()}
					if ops[at] = build(1, r); first {
						ops[at] = build(r, 1)
					}
					tr, b := behind(3, 3, ops...)
					top := 3 + at
					if name == "and" {
						top = 3
					}
					is(t, fmt.Sprint(name, " at ", at, " of ", r, ", ", first), wantModel(t, tr, b), r >= 0 && r < top)
				}
			}
		}
	}
}

// TestProductsOfTheBlock: an and op is of registers that are made ahead of the block, up to the last one, and of no other ones, whatever these are made of.
func TestProductsOfTheBlock(t *testing.T) {
	for name, o := range map[string]api.Op{"a mask": rand(), "a sum": xor(0, 1), "nothing": xor(1, 1), "a product": and(0, 1), "a key's word": key(0, 1)} {
		tr, b := behind(3, 5, o, and(4, 4))
		taken(t, name+", the last one ahead", tr, b)
		for _, bad := range []api.Op{and(5, 0), and(0, 5), and(5, 5), and(4, 5), and(5, 4)} {
			tr, b = behind(3, 5, o, bad)
			refused(t, fmt.Sprint(name, ", and of ", bad.A, " and ", bad.B), tr, b)
			b.From++
			taken(t, fmt.Sprint(name, ", ahead of the block, and of ", bad.A, " and ", bad.B), tr, b)
		}
	}
}

// --- P25.1: how many masks and terms ---

// manyMasks is n rand ops.
func manyMasks(n int) []api.Op {
	var out []api.Op
	for range n {
		out = append(out, rand())
	}
	return out
}

// manyTerms is ops of so many terms, by a kind, behind 80 ops.
func manyTerms(kind string, n int) []api.Op {
	var out []api.Op
	for i := range n {
		switch kind {
		case "and":
			out = append(out, and(i/10, i%10))
		case "xor":
			// One register is the same in all, so that each op has one term more, and the first two.
			if i > 0 {
				out = append(out, xor(i, 0))
			}
		case "xor, gone":
			out = append(out, xor(i, i))
		case "key":
			// The first one has two terms: the register's comes again.
			if i > 0 {
				out = append(out, key(7, 7))
			}
		}
	}
	return out
}

func TestHowManyMasks(t *testing.T) {
	for n := 1; n <= 70; n++ {
		what := fmt.Sprint(n, " masks")
		tr, b := behind(2, 5, manyMasks(n)...)
		if n > 32 {
			refused(t, what, tr, b)
			continue
		}
		got := taken(t, what, tr, b)
		is(t, what+": how many", len(got.Masks), n)
		for i, f := range got.Forms {
			is(t, fmt.Sprint(what, ": mask ", i), got.Masks[i], 5+i)
			is(t, fmt.Sprint(what, ": form ", i), f, terms.Form{Masks: 1 << i})
		}
	}
}

func TestHowManyTerms(t *testing.T) {
	for _, kind := range []string{"and", "xor", "xor, gone", "key"} {
		for n := 2; n <= 70; n++ {
			for _, shares := range []int{2, 3} {
				what := fmt.Sprint(n, " terms by ", kind, ", ", shares, " shares")
				tr, b := behind(shares, 80, manyTerms(kind, n)...)
				if n > 32 {
					refused(t, what, tr, b)
					continue
				}
				is(t, what+": how many", len(taken(t, what, tr, b).Terms), n)
				wantModel(t, tr, b)
			}
		}
	}
}

// TestAsManyOfBoth: 32 masks and 32 terms, and as many ops more as one wants; one more of either is one too many, even of an op that comes last, or first.
func TestAsManyOfBoth(t *testing.T) {
	ops := slices.Concat(manyMasks(32), manyTerms("and", 32))
	tr, b := behind(3, 80, ops...)
	got := taken(t, "32 of both", tr, b)
	is(t, "the last mask", got.Forms[31], terms.Form{Masks: 1 << 31})
	is(t, "the last term", got.Forms[63], terms.Form{Terms: 1 << 31})
	for range 300 {
		ops = append(ops, and(3, 1), xor(80, 143))
	}
	tr, b = behind(3, 80, ops...)
	got = taken(t, "32 of both, and more ops", tr, b)
	is(t, "the last form", got.Forms[len(got.Forms)-1], terms.Form{Masks: 1, Terms: 1 << 31})
	for _, o := range []api.Op{rand(), and(7, 7), and(4, 1), xor(80, 1), xor(1, 80), xor(1, 1), key(80, 80), key(80, 81), key(1, 1)} {
		more, b := behind(3, 80, append(slices.Clone(ops), o)...)
		refused(t, fmt.Sprintf("one more: %+v", o), more, b)
		more, b = behind(3, 80, append([]api.Op{o}, slices.Concat(manyMasks(32), manyTerms("and", 32))...)...)
		if o.A < 80 && o.B < 80 {
			refused(t, fmt.Sprintf("one more, first: %+v", o), more, b)
		}
	}
}

// TestKeysOwnTermIsOneTooMany: with 31 terms there is one more, the key's own one, but not with 32.
func TestKeysOwnTermIsOneTooMany(t *testing.T) {
	for n := 30; n <= 33; n++ {
		for _, shares := range []int{2, 3} {
			what := fmt.Sprint(n, " terms and a key op of them, ", shares, " shares")
			tr, b := behind(shares, 80, append(manyTerms("and", n), key(80, 81))...)
			if n >= 32 {
				refused(t, what, tr, b)
				continue
			}
			got := taken(t, what, tr, b)
			is(t, what+": the last term", got.Terms[n], terms.Term{A: 80 + n, B: -2})
		}
	}
}

// --- P25.1: against the long way ---

// someOps is each op of some kinds and small registers.
func someOps(top int) []api.Op {
	out := []api.Op{rand(), {Kind: 6, A: 0, B: -1, D: -1}}
	for a := -1; a <= top; a++ {
		for b := -1; b <= top; b++ {
			out = append(out, xor(a, b), and(a, b), key(a, b))
		}
	}
	return out
}

// TestAllSmall: all blocks of two ops behind two ops, and behind one op and a mask.
func TestAllSmall(t *testing.T) {
	may, mayNot := 0, 0
	count := func(told bool) {
		if told {
			may++
		} else {
			mayNot++
		}
	}
	for _, n := range []int{2, 3} {
		for _, x := range someOps(4) {
			for _, y := range someOps(4) {
				tr, b := behind(n, 2, x, y)
				count(wantModel(t, tr, b))
				tr, b = behind(n, 1, rand(), x, y)
				count(wantModel(t, tr, b))
			}
		}
	}
	if may < 1000 || mayNot < 1000 {
		t.Errorf("%d have tables, %d have not", may, mayNot)
	}
}

// scattered is a trace with a block in it that has a table, if there are not too many masks or terms.
func scattered(seed uint64) (api.Trace, api.Span) {
	pick := scatter(seed)
	ahead := 1 + pick(12)
	var ops []api.Op
	for i := range 1 + pick(14) {
		at := ahead + i
		switch pick(6) {
		case 0, 1:
			ops = append(ops, rand())
		case 2:
			ops = append(ops, and(pick(ahead), pick(ahead)))
		case 3:
			ops = append(ops, key(pick(at), pick(at)))
		default:
			ops = append(ops, xor(pick(at), pick(at)))
		}
	}
	return behind(2+pick(2), ahead, ops...)
}

func TestScattered(t *testing.T) {
	for seed := range uint64(3000) {
		tr, b := scattered(seed)
		if !wantModel(t, tr, b) {
			t.Fatalf("block %v of %+v has no table", b, tr)
		}
		// Where the block begins and ends is all that it hangs on, whatever else the trace has.
		for from := b.From - 1; from <= b.To; from++ {
			for to := from; to <= b.To+1; to++ {
				wantModel(t, tr, api.Span{From: from, To: to})
			}
		}
	}
}

// TestWhatDoesNotCount: the kind of the block, other blocks, ops outside, and domains, constants and D of ops.
func TestWhatDoesNotCount(t *testing.T) {
	for seed := range uint64(300) {
		tr, b := scattered(seed)
		want := taken(t, "as it is", tr, b)
		pick := scatter(seed + 7)
		for i := range tr.Ops {
			o := &tr.Ops[i]
			if i < b.From || i >= b.To {
				*o = api.Op{Kind: pick(30) - 5, A: pick(30) - 5, B: far()[pick(14)]}
			}
			o.Dom, o.D, o.C = far()[pick(14)], pick(30)-5, uint64(pick(1<<30))<<33
		}
		tr.Blocks = []api.Span{{Kind: 1, From: -5, To: 3}, b, {Kind: pick(9), From: pick(9), To: pick(9)}}
		for _, kind := range append(far(), -1, 0, 1, 2, 3, 4) {
			b.Kind = kind
			got, e := terms.Of(tr, b)
			wantTable(t, fmt.Sprint("kind ", kind), got, e, want)
		}
		tr.Ops = tr.Ops[:b.To]
		got, e := terms.Of(tr, b)
		wantTable(t, "at the end", got, e, want)
	}
}

// TestLongBlocks: a block of as many ops as a trace may have is gone through once.
func TestLongBlocks(t *testing.T) {
	ops := []api.Op{rand(), rand(), rand()}
	for at := len(ops) + 2; len(ops) < 1<<20-2; at++ {
		ops = append(ops, xor(at-1, at-2))
	}
	tr, b := behind(2, 2, ops...)
	tr.Ops = tr.Ops[:1<<20]
	got := taken(t, "2^20 ops", tr, b)
	is(t, "how many forms", len(got.Forms), len(ops))
	for i, f := range got.Forms[3:] {
		// Each sum is of both ahead of it, so that they come round after three.
		want := []terms.Form{of(1, 2)(), of(1)(), of(2)()}[i%3]
		if f != want {
			t.Fatalf("form %d: %v, not %v", i, f, want)
		}
	}
}

// --- P25.2 ---

// inputsOf is Inputs the long way: each register from 0 on is asked for.
func inputsOf(t terms.Table, set uint32, top int) []int {
	var out []int
	for r := range top {
		for i, x := range t.Terms {
			if i < 32 && set&(1<<i) != 0 && x.B != -2 && (x.A == r || x.B == r) {
				out = append(out, r)
				break
			}
		}
	}
	return out
}

func TestInputs(t *testing.T) {
	table := terms.Table{Terms: []terms.Term{{A: 9, B: -1}, {A: 4, B: 7}, {A: 7, B: 4}, {A: 3, B: -2}, {A: 4, B: -1}, {A: 8, B: 8}, {A: 0, B: 12}, {A: 12, B: -2}, {A: 5, B: 0}}}
	for _, r := range []struct {
		terms []int
		want  []int
	}{
		{nil, nil},
		{[]int{0}, []int{9}},
		{[]int{1}, []int{4, 7}},
		{[]int{2}, []int{4, 7}},
		{[]int{1, 2}, []int{4, 7}},
		{[]int{1, 2, 4}, []int{4, 7}},
		{[]int{0, 4}, []int{4, 9}},
		{[]int{0, 1}, []int{4, 7, 9}},
		{[]int{3}, nil},
		{[]int{3, 7}, nil},
		{[]int{3, 0}, []int{9}},
		{[]int{5}, []int{8}},
		{[]int{6}, []int{0, 12}},
		{[]int{6, 7}, []int{0, 12}},
		{[]int{6, 8}, []int{0, 5, 12}},
		{[]int{8, 6, 5, 0}, []int{0, 5, 8, 9, 12}},
		{[]int{0, 1, 2, 3, 4, 5, 6, 7, 8}, []int{0, 4, 5, 7, 8, 9, 12}},
		// There are no terms of these numbers.
		{[]int{9, 20, 31}, nil},
		{[]int{31, 0, 30, 9}, []int{9}},
	} {
		are(t, fmt.Sprint("terms ", r.terms), terms.Inputs(table, bits(nil, r.terms).Terms), r.want...)
	}
	for set := range uint32(1 << 9) {
		are(t, fmt.Sprint("set ", set), terms.Inputs(table, set), inputsOf(table, set, 20)...)
		are(t, fmt.Sprint("set ", set, " and more"), terms.Inputs(table, set|0xfffffe00), inputsOf(table, set, 20)...)
	}
}

// TestInputsOfNothing: of tables without terms, and of no set.
func TestInputsOfNothing(t *testing.T) {
	for _, set := range []uint32{0, 1, 1 << 31, math.MaxUint32} {
		is(t, "a table of nothing", len(terms.Inputs(terms.Table{}, set)), 0)
		is(t, "a table without terms", len(terms.Inputs(terms.Table{Masks: []int{1, 2}, Forms: []terms.Form{{Masks: 3, Terms: 3}}}, set)), 0)
		is(t, "no terms", len(terms.Inputs(terms.Table{Terms: []terms.Term{}}, set)), 0)
	}
}

// TestInputsOf32: each number has its bit, up to the last one; of a table with more terms these have none.
func TestInputsOf32(t *testing.T) {
	var table terms.Table
	for i := range 100 {
		table.Terms = append(table.Terms, terms.Term{A: 1000 - i, B: -1})
	}
	for i := range 32 {
		are(t, fmt.Sprint("term ", i), terms.Inputs(table, 1<<i), 1000-i)
	}
	var all []int
	for r := 969; r <= 1000; r++ {
		all = append(all, r)
	}
	are(t, "all", terms.Inputs(table, math.MaxUint32), all...)
	table.Terms = table.Terms[:3]
	are(t, "three, and more behind the length", terms.Inputs(table, math.MaxUint32), 998, 999, 1000)
}

// TestInputsOfBlocks: of the terms of blocks, with all sets of as many as there are.
func TestInputsOfBlocks(t *testing.T) {
	for seed := range uint64(200) {
		tr, b := scattered(seed)
		table := taken(t, "scattered", tr, b)
		pick := scatter(seed + 3)
		for range 40 {
			set := uint32(pick(1<<31))<<1 | uint32(pick(2))
			got := terms.Inputs(table, set)
			are(t, "scattered", got, inputsOf(table, set, len(tr.Ops))...)
			for _, r := range got {
				is(t, "a register made ahead of the block", r >= 0 && r < b.From, true)
			}
		}
	}
}

// TestInputsOfWrongTables: no table makes it panic, and what is told rises.
func TestInputsOfWrongTables(t *testing.T) {
	for _, a := range append(far(), -1, 0, 1) {
		for _, b := range append(far(), -3, -2, -1, 0, 1) {
			table := terms.Table{Terms: []terms.Term{{A: a, B: b}, {A: 5, B: 2}}}
			got := terms.Inputs(table, math.MaxUint32)
			for i := 1; i < len(got); i++ {
				is(t, fmt.Sprint(a, ", ", b, ": rising"), got[i-1] < got[i], true)
			}
			is(t, fmt.Sprint(a, ", ", b, ": A"), slices.Contains(got, a), b != -2)
			is(t, fmt.Sprint(a, ", ", b, ": B"), slices.Contains(got, b), b >= 0 || b == a && b != -2)
		}
	}
}

// --- P25.3 ---

// evaluated is each register's word, by what ops make.
func evaluated(t api.Trace, seed uint64) ([]uint64, []uint64) {
	outside := someWords(seed, len(t.Ops))
	var v []uint64
	at := func(r int) uint64 {
		if r >= 0 && r < len(v) {
			return v[r]
		}
		return 0
	}
	for i, o := range t.Ops {
		b := at(o.B)
		if o.Kind == 2 && t.N != 3 {
			b = 0
		}
		x := outside[i]
		if o.Kind < 1 || o.Kind > 12 {
			v = append(v, x)
			continue
		}
		v = append(v, op.Eval(o, at(o.A), b, at(o.D), x))
	}
	return v, outside
}

// wantWords holds each word of a block against its masks' and its terms', put together; a key's word is that of the key op's place.
func wantWords(t *testing.T, what string, tr api.Trace, b api.Span, v, keys []uint64) {
	t.Helper()
	table := taken(t, what, tr, b)
	for i, f := range table.Forms {
		x := uint64(0)
		for k, at := range table.Masks {
			if f.Masks>>k&1 == 1 {
				x ^= v[at]
			}
		}
		for k, one := range table.Terms {
			switch {
			case f.Terms>>k&1 == 0:
			case one.B == -1:
				x ^= v[one.A]
			case one.B == -2:
				x ^= keys[one.A]
			default:
				x ^= v[one.A] & v[one.B]
			}
		}
		is(t, fmt.Sprint(what, ": word ", i), v[b.From+i], x)
	}
}

func TestWordsOfScattered(t *testing.T) {
	for seed := range uint64(2000) {
		tr, b := scattered(seed)
		v, outside := evaluated(tr, seed+11)
		wantWords(t, fmt.Sprint("scattered ", seed), tr, b, v, outside)
	}
}

// TestWordsOfGadgets: on machines, whatever the words and masks are.
func TestWordsOfGadgets(t *testing.T) {
	for _, g := range gadgets() {
		for seed := range uint64(40) {
			words, masks := someWords(seed, 6), someWords(seed+50, 3)
			if seed < 12 {
				masks = []uint64{farWords()[seed], farWords()[(seed+5)%12], farWords()[(seed+3)%12]}
			}
			m := played(t, g, words, masks)
			tr := m.Trace()
			// What is encoded is 7, wherever the key op stands.
			keys := slices.Repeat([]uint64{7}, len(tr.Ops))
			wantWords(t, g.what, tr, tr.Blocks[0], m.Values(), keys)
		}
	}
}

// --- What holds everywhere ---

// TestNothingIsChanged: a trace and a table are as they were behind each call.
func TestNothingIsChanged(t *testing.T) {
	for seed := range uint64(100) {
		tr, b := scattered(seed)
		tr.Blocks = []api.Span{b}
		ops := slices.Clone(tr.Ops)
		table := taken(t, "scattered", tr, b)
		are(t, "ops", tr.Ops, ops...)
		are(t, "blocks", tr.Blocks, b)
		was := terms.Table{Masks: slices.Clone(table.Masks), Terms: slices.Clone(table.Terms), Forms: slices.Clone(table.Forms)}
		terms.Inputs(table, math.MaxUint32)
		wantTable(t, "the table", table, api.OK, was)
	}
}

// TestNewMemory: what is told is shared with no other answer, and nothing lies behind its length.
func TestNewMemory(t *testing.T) {
	for seed := range uint64(100) {
		tr, b := scattered(seed)
		first := taken(t, "first", tr, b)
		want, _ := model(tr, b)
		registers := terms.Inputs(first, math.MaxUint32)
		wantRegisters := inputsOf(want, math.MaxUint32, len(tr.Ops))
		for _, r := range registers[len(registers):cap(registers)] {
			is(t, "behind the registers", r, 0)
		}
		for i := range registers {
			registers[i] = -7
		}
		are(t, "registers", terms.Inputs(first, math.MaxUint32), wantRegisters...)
		wantTable(t, "its table", first, api.OK, want)
		for i := range first.Masks {
			first.Masks[i] = -7
		}
		for i := range first.Terms {
			first.Terms[i].A = -7
		}
		for i := range first.Forms {
			first.Forms[i].Masks = 7
		}
		second, e := terms.Of(tr, b)
		wantTable(t, "behind another one that was changed", second, e, want)
	}
}

func TestManyAskAtOnce(t *testing.T) {
	tr, b := behind(3, 5, rand(), xor(0, 5), and(1, 2), key(5, 7), xor(8, 6))
	want, _ := model(tr, b)
	var group sync.WaitGroup
	for range 16 {
		group.Go(func() {
			for range 50 {
				got, e := terms.Of(tr, b)
				if e != api.OK || !slices.Equal(got.Terms, want.Terms) || !slices.Equal(got.Forms, want.Forms) || !slices.Equal(terms.Inputs(got, 7), []int{0, 1, 2}) {
					t.Error("with others at once, a block is told otherwise")
				}
			}
		})
	}
	group.Wait()
}
