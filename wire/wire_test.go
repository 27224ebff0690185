package wire_test

import (
	"fmt"
	"math"
	"math/bits"
	"slices"
	"testing"

	"visor/api"
	"visor/op"
	"visor/tape"
	"visor/trace"
	"visor/wire"
)

// otherShares is numbers of shares that no machine has, among them those that come round to one in fewer bits.
func otherShares() []int {
	return []int{0, 1, 4, 5, 64, -1, -2, -3, 256 + 2, 65536 + 3, 1<<32 + 2, 1<<32 + 3, math.MaxInt, math.MinInt, math.MinInt + 2}
}

// otherBounds is numbers that are no machine's bound of ops.
func otherBounds() []int {
	return []int{-1, -2, 1<<20 + 1, 1<<20 + 2, 1 << 21, 1 << 32, 1<<32 + 5, -1 << 20, math.MaxInt, math.MinInt, math.MinInt + 1}
}

// otherBlocks is numbers that are no kind of a block, among them those that come round to one in fewer bits.
func otherBlocks() []int {
	return []int{0, -1, -2, -3, 4, 5, 12, 256 + 1, 65536 + 2, 1<<32 + 1, 1<<32 + 3, -1<<32 + 1, math.MaxInt, math.MinInt, math.MinInt + 1}
}

// otherKinds is numbers that are no kind of an op.
func otherKinds() []int {
	return []int{0, -1, -2, -12, 13, 14, 256 + 5, 1<<32 + 1, 1<<32 + 2, math.MaxInt, math.MinInt, math.MinInt + 5}
}

// farWords is words at their ends, and some between.
func farWords() []uint64 {
	return []uint64{0, 1, 2, 63, 64, 1<<20 - 1, 1 << 20, 1 << 32, 1<<63 - 1, 1 << 63, math.MaxUint64 - 1, math.MaxUint64, 0x0123456789abcdef}
}

// scatter tells numbers, one behind the other, such as a rule of numbers scatters.
func scatter(seed uint64) func(below int) int {
	return func(below int) int {
		seed = seed*6364136223846793005 + 1442695040888963407
		return int(seed >> 33 % uint64(below))
	}
}

// someWords is n words that a rule scatters.
func someWords(seed uint64, n int) []uint64 {
	pick := scatter(seed)
	out := make([]uint64, n)
	for i := range out {
		out[i] = uint64(pick(1<<31))<<33 ^ uint64(pick(1<<31))<<11 ^ uint64(pick(1<<31))
	}
	return out
}

// reserved is a tape of words that may all be drawn.
func reserved(words ...uint64) *tape.Tape {
	t := tape.New(words)
	t.Reserve(len(words))
	return t
}

// made is a machine that there must be.
func made(t *testing.T, n int, masks *tape.Tape, most int) *wire.Machine {
	t.Helper()
	m, e := wire.New(n, masks, most)
	if m == nil || e != api.OK {
		t.Fatalf("New of %d shares, %d ops: %v, %d", n, most, m, e)
	}
	return m
}

// free is an op of no register.
func free(kind, dom int, c uint64) api.Op {
	return api.Op{Kind: kind, Dom: dom, A: -1, B: -1, D: -1, C: c}
}

// one is an op of one register.
func one(kind, dom, a int, c uint64) api.Op {
	return api.Op{Kind: kind, Dom: dom, A: a, B: -1, D: -1, C: c}
}

// two is an op of two registers.
func two(kind, dom, a, b int) api.Op {
	return api.Op{Kind: kind, Dom: dom, A: a, B: b, D: -1}
}

// opened is an open op.
func opened(a, b, d int) api.Op { return api.Op{Kind: api.Open, Dom: -1, A: a, B: b, D: d} }

// is holds what a call tells against what it should.
func is[T comparable](t *testing.T, what string, got, want T) {
	t.Helper()
	if got != want {
		t.Errorf("%s: %v, not %v", what, got, want)
	}
}

// are holds a list against what it should be.
func are[T comparable](t *testing.T, what string, got []T, want ...T) {
	t.Helper()
	if !slices.Equal(got, want) {
		t.Errorf("%s: %v, not %v", what, got, want)
	}
}

// doer is what a machine, and the plain one below, can be asked to do.
type doer interface {
	Do(o api.Op, x uint64) int
	Rand(dom int) int
	Key(x uint64, a, b int) int
	Const(dom int, c uint64) int
	Told(dom int, c uint64) int
	Two(kind, dom, a, b int) int
	One(kind, dom, a int, c uint64) int
	Open(a, b, d int) uint64
	Begin(kind int)
	End()
	N() int
	Len() int
	Draws() int
	Err() api.Errno
	Trace() api.Trace
	Values() []uint64
}

// plain is a machine as the chapter's words tell it: all is counted anew from lists.
type plain struct {
	n, most int
	// masks are those that may still be drawn.
	masks []uint64
	// ahead is how many ops, and key ops, the machine of a dry one did.
	dry         bool
	ahead, keys int
	did         []api.Op
	words       []uint64
	blocks      []api.Span
	open        []api.Span
	err         api.Errno
}

// count is how many ops of a kind it did.
func (p *plain) count(kind int) int {
	n := 0
	for _, o := range p.did {
		if o.Kind == kind {
			n++
		}
	}
	return n
}

// at is a register's word, 0 of what is none.
func (p *plain) at(r int) uint64 {
	if r < 0 || p.dry {
		return 0
	}
	return p.words[r]
}

// eval is what an op makes, bit by bit.
func (p *plain) eval(o api.Op, x uint64) uint64 {
	a, b, d := p.at(o.A), p.at(o.B), p.at(o.D)
	out := uint64(0)
	for i := range 64 {
		bit := func(w uint64) uint64 { return w >> i & 1 }
		moved := func(by int) uint64 {
			if i+by < 0 || i+by > 63 {
				return 0
			}
			return a >> (i + by) & 1
		}
		var one uint64
		switch o.Kind {
		case 1:
			one = bit(x)
		case 2:
			one = (bit(x) + bit(a) + bit(b)) % 2
		case 3, 4:
			one = bit(o.C)
		case 5:
			one = (bit(a) + bit(b)) % 2
		case 6:
			one = 1 - bit(a)
		case 7:
			one = bit(a) * bit(b)
		case 8:
			one = bit(a) * bit(o.C)
		case 9:
			one = moved(-int(o.C))
		case 10:
			one = moved(int(o.C))
		case 11:
			one = a >> ((i + 64 - int(o.C)) % 64) & 1
		case 12:
			one = (bit(a) + bit(b) + bit(d)) % 2
		}
		out |= one << i
	}
	return out
}

func (p *plain) fail(e api.Errno) int {
	p.err = e
	return -1
}

func (p *plain) Do(o api.Op, x uint64) int {
	if p.err != 0 {
		return -1
	}
	at := p.ahead + len(p.did)
	if !op.Right(o, at, p.n) {
		return p.fail(api.ErrArg)
	}
	if o.Kind == 2 && o.C != uint64(p.keys+p.count(2)) {
		return p.fail(api.ErrArg)
	}
	if !p.dry {
		if at == p.most {
			return p.fail(api.ErrSize)
		}
		if o.Kind == 1 {
			if len(p.masks) == 0 {
				return p.fail(api.ErrRandom)
			}
			x, p.masks = p.masks[0], p.masks[1:]
		}
		p.words = append(p.words, p.eval(o, x))
	}
	p.did = append(p.did, o)
	return at
}

func (p *plain) Rand(dom int) int            { return p.Do(free(1, dom, 0), 0) }
func (p *plain) Const(dom int, c uint64) int { return p.Do(free(3, dom, c), 0) }
func (p *plain) Told(dom int, c uint64) int  { return p.Do(free(4, dom, c), 0) }
func (p *plain) Two(kind, dom, a, b int) int { return p.Do(two(kind, dom, a, b), 0) }

func (p *plain) Key(x uint64, a, b int) int {
	return p.Do(api.Op{Kind: 2, A: a, B: b, D: -1, C: uint64(p.keys + p.count(2))}, x)
}

func (p *plain) One(kind, dom, a int, c uint64) int { return p.Do(one(kind, dom, a, c), 0) }

func (p *plain) Open(a, b, d int) uint64 {
	at := p.Do(opened(a, b, d), 0)
	if at < 0 {
		return 0
	}
	if p.dry {
		return 1<<64 - 1
	}
	return p.words[at]
}

func (p *plain) Begin(kind int) {
	if p.err != 0 {
		return
	}
	if len(p.open) > 0 || kind != 1 && kind != 2 && kind != 3 {
		p.fail(api.ErrArg)
		return
	}
	p.open = []api.Span{{Kind: kind, From: p.Len()}}
}

func (p *plain) End() {
	if p.err != 0 {
		return
	}
	if len(p.open) == 0 {
		p.fail(api.ErrArg)
		return
	}
	b := p.open[0]
	b.To = p.Len()
	p.open = nil
	if b.To != b.From && !p.dry {
		p.blocks = append(p.blocks, b)
	}
}

func (p *plain) N() int         { return p.n }
func (p *plain) Len() int       { return p.ahead + len(p.did) }
func (p *plain) Draws() int     { return p.count(1) }
func (p *plain) Err() api.Errno { return p.err }

func (p *plain) Trace() api.Trace {
	if p.dry {
		return api.Trace{N: p.n}
	}
	return api.Trace{N: p.n, Ops: p.did, Blocks: p.blocks}
}

func (p *plain) Values() []uint64 { return p.words }

func (p *plain) Dry() *plain {
	return &plain{n: p.n, dry: true, ahead: p.Len(), keys: p.keys + p.count(2)}
}

// alike holds all that a machine tells of itself against what it should.
func alike(t *testing.T, what string, m, want doer) {
	t.Helper()
	is(t, what+": N", m.N(), want.N())
	is(t, what+": Len", m.Len(), want.Len())
	is(t, what+": Draws", m.Draws(), want.Draws())
	is(t, what+": Err", m.Err(), want.Err())
	a, b := m.Trace(), want.Trace()
	is(t, what+": Trace's N", a.N, b.N)
	are(t, what+": Trace's Ops", a.Ops, b.Ops...)
	are(t, what+": Trace's Blocks", a.Blocks, b.Blocks...)
	are(t, what+": Values", m.Values(), want.Values()...)
}

// --- P19.1: New ---

func TestNewMachine(t *testing.T) {
	for n := 2; n <= 3; n++ {
		for _, most := range []int{0, 1, 2, 9, 1<<20 - 1, 1 << 20} {
			masks := reserved(4, 5, 6)
			m := made(t, n, masks, most)
			alike(t, fmt.Sprint("new machine of ", n, " shares, ", most, " ops"), m, &plain{n: n, most: most})
			is(t, "drawn", masks.Used(), 0)
			is(t, "allowed", masks.Allowed(), 3)
		}
	}
}

// TestNewWithAnEmptyTape: a tape need not have words, nor an allowance; only what is nobody's is none.
func TestNewWithAnEmptyTape(t *testing.T) {
	for what, masks := range map[string]*tape.Tape{"no words": tape.New(nil), "nothing reserved": tape.New([]uint64{1}), "not made": {}} {
		m := made(t, 2, masks, 5)
		is(t, what+": Const", m.Const(0, 3), 0)
		is(t, what+": Rand", m.Rand(0), -1)
		is(t, what+": Err", m.Err(), api.ErrRandom)
	}
}

func refused(t *testing.T, n int, masks *tape.Tape, most int) {
	t.Helper()
	if m, e := wire.New(n, masks, most); m != nil || e != api.ErrArg {
		t.Errorf("New of %d shares, %v, %d ops: %v, %d", n, masks, most, m, e)
	}
}

func TestNewThatIsRefused(t *testing.T) {
	for _, n := range otherShares() {
		refused(t, n, reserved(1), 9)
		refused(t, n, nil, 9)
		refused(t, n, reserved(1), -1)
	}
	for n := 2; n <= 3; n++ {
		refused(t, n, nil, 9)
		refused(t, n, nil, 0)
		for _, most := range otherBounds() {
			refused(t, n, reserved(1), most)
			refused(t, n, nil, most)
		}
	}
}

// --- P19.1: Do ---

// TestTheChaptersExample: two constants and their xor.
func TestTheChaptersExample(t *testing.T) {
	m := made(t, 2, tape.New(nil), 9)
	a, b := m.Const(0, 5), m.Const(0, 6)
	is(t, "the xor's register", m.Two(api.Xor, 0, a, b), 2)
	are(t, "words", m.Values(), 5, 6, 3)
}

// TestTheReadmesExample: an encoded word that is opened, and a mask too many.
func TestTheReadmesExample(t *testing.T) {
	m := made(t, 2, reserved(12), 20)
	m.Begin(api.Encode)
	r := m.Rand(1)
	k := m.Key(10, r, -1)
	m.End()
	d := m.Dry()
	is(t, "the dry machine's register", d.Rand(1), 2)
	is(t, "the dry machine's masks", d.Draws(), 1)
	is(t, "opened", m.Open(k, r, -1), 10)
	is(t, "a mask too many", m.Rand(1), -1)
	is(t, "Err", m.Err(), api.ErrRandom)
	is(t, "behind the error", m.Const(0, 5), -1)
	are(t, "words", m.Values(), 12, 6, 10)
	are(t, "ops", m.Trace().Ops, free(api.Rand, 1, 0), one(api.Key, 0, 0, 0), opened(1, 0, -1))
	are(t, "blocks", m.Trace().Blocks, api.Span{Kind: api.Encode, From: 0, To: 2})
}

// TestEachKind: an op of each kind, with its word.
func TestEachKind(t *testing.T) {
	const x = 0xf0f0f0f0f0f0f0f0
	for n := 2; n <= 3; n++ {
		key, keyWord := one(api.Key, 1, 0, 0), uint64(x^0x00ff00ff00ff00ff)
		open, openWord := opened(0, 1, -1), uint64(0x00ff00ff00ff00ff^0x123456789abcdef0)
		if n == 3 {
			key, keyWord = two(api.Key, 1, 0, 1), keyWord^0x123456789abcdef0
			open, openWord = opened(0, 1, 2), openWord^0x8000000000000001
		}
		for _, r := range []struct {
			o    api.Op
			want uint64
		}{
			{free(api.Rand, 0, 0), 0x77},
			{free(api.Rand, -1, 0), 0x77},
			{key, keyWord},
			{free(api.Const, 1, 99), 99},
			{free(api.Told, 0, 98), 98},
			{two(api.Xor, 0, 0, 1), 0x00ff00ff00ff00ff ^ 0x123456789abcdef0},
			{two(api.Xor, 0, 1, 1), 0},
			{one(api.Not, 0, 0, 0), 0xff00ff00ff00ff00},
			{two(api.And, 0, 0, 1), 0x00ff00ff00ff00ff & 0x123456789abcdef0},
			{one(api.Mask, 0, 1, 0xff0), 0xef0},
			{one(api.Shl, 0, 1, 60), 0},
			{one(api.Shl, 0, 1, 4), 0x23456789abcdef00},
			{one(api.Shr, 0, 1, 60), 1},
			{one(api.Rot, 0, 1, 4), 0x23456789abcdef01},
			{one(api.Rot, 0, 2, 63), 0xc000000000000000},
			{open, openWord},
		} {
			m := made(t, n, reserved(0x77, 0x88), 9)
			m.Const(0, 0x00ff00ff00ff00ff)
			m.Const(0, 0x123456789abcdef0)
			m.Const(0, 0x8000000000000001)
			what := fmt.Sprintf("%d shares, %+v", n, r.o)
			is(t, what+": register", m.Do(r.o, x), 3)
			is(t, what+": Err", m.Err(), api.OK)
			is(t, what+": Len", m.Len(), 4)
			are(t, what+": words", m.Values(), 0x00ff00ff00ff00ff, 0x123456789abcdef0, 0x8000000000000001, r.want)
			is(t, what+": op", m.Trace().Ops[3], r.o)
		}
	}
}

// TestWhatComesFromOutside: only key ops take the word that is handed in; rand ops take the tape's.
func TestWhatComesFromOutside(t *testing.T) {
	for _, x := range farWords() {
		m := made(t, 2, reserved(3, 9), 20)
		m.Do(free(api.Rand, 1, 0), x)
		m.Do(one(api.Key, 0, 0, 0), x)
		m.Do(free(api.Const, 0, 5), x)
		m.Do(free(api.Told, 0, 6), x)
		m.Do(two(api.Xor, 0, 0, 0), x)
		m.Do(one(api.Not, 0, 4, 0), x)
		m.Do(two(api.And, 0, 5, 5), x)
		m.Do(one(api.Mask, 0, 5, 1), x)
		m.Do(one(api.Shl, 0, 4, 0), x)
		m.Do(one(api.Shr, 0, 4, 0), x)
		m.Do(one(api.Rot, 0, 4, 0), x)
		m.Do(opened(4, 4, -1), x)
		m.Do(free(api.Rand, 0, 0), x)
		are(t, fmt.Sprint("outside word ", x), m.Values(), 3, x^3, 5, 6, 0, math.MaxUint64, math.MaxUint64, 1, 0, 0, 0, 0, 9)
	}
}

// smallOps is all ops of small numbers about a place, with some constants.
func smallOps(at, n int) []api.Op {
	var out []api.Op
	constants := []uint64{0, 1, 2, 63, 64, 1<<20 - 1, 1 << 20, math.MaxUint64}
	for kind := -1; kind <= 14; kind++ {
		for dom := -2; dom <= n; dom++ {
			for a := -2; a <= at+1; a++ {
				for b := -2; b <= at+1; b++ {
					for _, d := range []int{-2, -1, 0, at - 1, at} {
						for _, c := range constants {
							out = append(out, api.Op{Kind: kind, Dom: dom, A: a, B: b, D: d, C: c})
						}
					}
				}
			}
		}
	}
	return out
}

// begun is a machine that did so many ops, the second one of a key, and a plain one that did the same.
func begun(t *testing.T, n, at int) (*wire.Machine, *plain) {
	masks := someWords(uint64(n+at), 4)
	m := made(t, n, reserved(masks...), 30)
	p := &plain{n: n, most: 30, masks: masks}
	for _, d := range []doer{m, p} {
		for i := range at {
			switch i {
			case 0:
				d.Rand(1)
			case 1:
				second := -1
				if n == 3 {
					second = 0
				}
				d.Key(77, 0, second)
			default:
				d.Const(0, uint64(i)*0x0123456789abcdef)
			}
		}
	}
	return m, p
}

// TestAllSmallOps: each op is done if it may stand there, and else it is ErrArg.
func TestAllSmallOps(t *testing.T) {
	for n := 2; n <= 3; n++ {
		for at := range 4 {
			right, wrong := 0, 0
			for _, o := range smallOps(at, n) {
				m, p := begun(t, n, at)
				what := fmt.Sprintf("%d shares, %d ops, %+v", n, at, o)
				got, want := m.Do(o, 5), p.Do(o, 5)
				is(t, what, got, want)
				is(t, what+": Err", m.Err(), p.Err())
				if want < 0 {
					wrong++
					is(t, what+": Len", m.Len(), at)
					is(t, what+": Draws", m.Draws(), p.Draws())
					continue
				}
				right++
				are(t, what+": words", m.Values(), p.Values()...)
			}
			if right < 20 || wrong < 1000 {
				t.Errorf("%d shares, %d ops: %d right, %d wrong", n, at, right, wrong)
			}
		}
	}
}

// TestOpsOfFarNumbers: what comes round to a right number in fewer bits is not right.
func TestOpsOfFarNumbers(t *testing.T) {
	far := []int{math.MinInt, math.MinInt + 1, -1 << 32, -1<<32 + 1, 1 << 32, 1<<32 + 1, 256, 65536, math.MaxInt}
	for n := 2; n <= 3; n++ {
		for _, o := range []api.Op{free(api.Const, 0, 3), one(api.Not, 0, 0, 0), two(api.Xor, 0, 0, 1), opened(0, 1, 2)} {
			for _, number := range far {
				for field := range 5 {
					bad := o
					*[]*int{&bad.Kind, &bad.Dom, &bad.A, &bad.B, &bad.D}[field] = number
					m, _ := begun(t, n, 3)
					is(t, fmt.Sprintf("%+v", bad), m.Do(bad, 0), -1)
					is(t, fmt.Sprintf("%+v: Err", bad), m.Err(), api.ErrArg)
				}
			}
		}
		for _, kind := range otherKinds() {
			m, _ := begun(t, n, 3)
			is(t, fmt.Sprint("kind ", kind), m.Do(free(kind, 0, 0), 0), -1)
			is(t, fmt.Sprint("kind ", kind, ": Err"), m.Err(), api.ErrArg)
		}
	}
}

// keyOp is a key op of register 0 alone, in a machine of n shares.
func keyOp(n int, c uint64) api.Op {
	if n == 3 {
		return api.Op{Kind: api.Key, Dom: 0, A: 0, B: 0, D: -1, C: c}
	}
	return one(api.Key, 0, 0, c)
}

// TestKeysInOrder: a key op's constant is how many key ops there were, whatever else was done.
func TestKeysInOrder(t *testing.T) {
	for n := 2; n <= 3; n++ {
		for were := range 6 {
			for _, c := range []uint64{0, 1, 2, 3, 4, 5, 6, 7, 255, 256, 1<<20 - 1, 1 << 20, 1 << 32, math.MaxUint64} {
				m := made(t, n, reserved(1, 2), 99)
				m.Rand(0)
				for i := range were {
					is(t, "key", m.Do(keyOp(n, uint64(i)), 8), 1+3*i)
					m.Const(0, 9)
					m.Told(0, 9)
				}
				what := fmt.Sprintf("%d shares, %d key ops, and one with %d", n, were, c)
				if c == uint64(were) {
					is(t, what, m.Do(keyOp(n, c), 8), 1+3*were)
					is(t, what, m.Err(), api.OK)
					continue
				}
				is(t, what, m.Do(keyOp(n, c), 8), -1)
				is(t, what, m.Err(), api.ErrArg)
				is(t, what, m.Len(), 1+3*were)
			}
		}
	}
}

// TestTheBound: as many ops are done as the bound, and then none.
func TestTheBound(t *testing.T) {
	for n := 2; n <= 3; n++ {
		for most := range 7 {
			// The last op is of each kind that may stand there.
			for kind := api.Rand; kind <= api.Open; kind++ {
				masks := reserved(someWords(3, 20)...)
				m := made(t, n, masks, most)
				for i := range most {
					is(t, "within the bound", m.Const(0, 7), i)
				}
				is(t, "at the bound", m.Err(), api.OK)
				o := free(kind, 0, 0)
				for i, r := range []*int{&o.A, &o.B, &o.D} {
					if i < op.Regs(kind, n) {
						*r = 0
					}
				}
				if kind == api.Open {
					o.Dom = -1
				}
				want := api.ErrSize
				if most == 0 && op.Regs(kind, n) > 0 {
					want = api.ErrArg
				}
				what := fmt.Sprintf("%d shares, %d ops, and %s", n, most, op.Name(kind))
				is(t, what, m.Do(o, 0), -1)
				is(t, what+": Err", m.Err(), want)
				is(t, what+": Len", m.Len(), most)
				is(t, what+": drawn", masks.Used(), 0)
			}
		}
	}
}

// TestTheGreatestBound: 2^20 ops may be asked for, and are done.
func TestTheGreatestBound(t *testing.T) {
	const all = 1 << 20
	m := made(t, 2, tape.New(nil), all)
	for i := range all {
		if m.Const(0, uint64(i)) != i {
			t.Fatalf("op %d was not done", i)
		}
	}
	is(t, "Err", m.Err(), api.OK)
	is(t, "one more", m.Const(0, 1), -1)
	is(t, "one more: Err", m.Err(), api.ErrSize)
	is(t, "one more: Len", m.Len(), all)
	is(t, "Check", trace.Check(m.Trace()), api.OK)
	is(t, "the last word", m.Values()[all-1], all-1)
}

// TestMasks: masks are the tape's next words, as many as may be drawn.
func TestMasks(t *testing.T) {
	masks := tape.New([]uint64{10, 11, 12, 13, 14})
	masks.Reserve(1)
	masks.Draw()
	masks.Reserve(2)
	m := made(t, 2, masks, 20)
	is(t, "first", m.Rand(1), 0)
	m.Const(0, 1)
	// The tape is the caller's still: what is reserved, and drawn, beside the machine counts.
	masks.Reserve(2)
	masks.Draw()
	is(t, "second", m.Rand(0), 2)
	are(t, "words", m.Values(), 11, 1, 13)
	is(t, "Draws", m.Draws(), 2)
	is(t, "Used", masks.Used(), 4)
	is(t, "none is reserved", m.Rand(0), -1)
	is(t, "none is reserved: Err", m.Err(), api.ErrRandom)
	is(t, "none is reserved: Draws", m.Draws(), 2)
	is(t, "none is reserved: Len", m.Len(), 3)
	masks.Reserve(1)
	is(t, "the error stays", m.Rand(0), -1)
	is(t, "and draws none", masks.Used(), 4)
}

// TestOneTapeOfTwoMachines: each draws what the other one has left.
func TestOneTapeOfTwoMachines(t *testing.T) {
	masks := reserved(1, 2, 3)
	a, b := made(t, 2, masks, 9), made(t, 3, masks, 9)
	a.Rand(0)
	b.Rand(0)
	a.Rand(0)
	is(t, "no mask is left", b.Rand(0), -1)
	are(t, "one", a.Values(), 1, 3)
	are(t, "the other one", b.Values(), 2)
	is(t, "one's Err", a.Err(), api.OK)
	is(t, "the other one's Err", b.Err(), api.ErrRandom)
}

// TestOrderOfErrors: what may not stand there is told first, then the bound, then the tape.
func TestOrderOfErrors(t *testing.T) {
	for _, r := range []struct {
		what string
		o    api.Op
		full bool
		want api.Errno
	}{
		{"all three", free(api.Rand, 5, 0), true, api.ErrArg},
		{"a kind, and the bound", free(13, 0, 0), true, api.ErrArg},
		{"a key's constant, and the bound", one(api.Key, 0, 0, 1), true, api.ErrArg},
		{"a register, and the bound", one(api.Not, 0, 2, 0), true, api.ErrArg},
		{"the bound, and the tape", free(api.Rand, 0, 0), true, api.ErrSize},
		{"the bound", one(api.Key, 0, 0, 0), true, api.ErrSize},
		{"a wrong rand op, and the tape", free(api.Rand, 0, 1), false, api.ErrArg},
		{"the tape", free(api.Rand, 0, 0), false, api.ErrRandom},
	} {
		most := 9
		if r.full {
			most = 2
		}
		m := made(t, 2, tape.New([]uint64{1}), most)
		m.Const(0, 1)
		m.Const(0, 2)
		is(t, r.what, m.Do(r.o, 0), -1)
		is(t, r.what, m.Err(), r.want)
	}
	// What is refused draws nothing, though it might.
	for _, o := range []api.Op{free(api.Rand, 5, 0), free(api.Rand, 0, 1), one(api.Rand, 0, 0, 0), free(api.Rand, 0, 0)} {
		masks := reserved(1, 2)
		m := made(t, 2, masks, 1)
		m.Const(0, 1)
		is(t, "refused", m.Do(o, 0), -1)
		is(t, "refused: drawn", masks.Used(), 0)
		is(t, "refused: allowed", masks.Allowed(), 2)
	}
}

// failures is ways to get an error out of a machine of two shares that did three ops of at most five, and may draw one mask.
func failures() map[string]func(m *wire.Machine) api.Errno {
	return map[string]func(m *wire.Machine) api.Errno{
		"wrong op":      func(m *wire.Machine) api.Errno { m.Do(api.Op{}, 0); return api.ErrArg },
		"wrong domain":  func(m *wire.Machine) api.Errno { m.Rand(2); return api.ErrArg },
		"wrong key":     func(m *wire.Machine) api.Errno { m.Do(one(api.Key, 0, 0, 7), 0); return api.ErrArg },
		"wrong key op":  func(m *wire.Machine) api.Errno { m.Key(1, 0, 0); return api.ErrArg },
		"wrong const":   func(m *wire.Machine) api.Errno { m.Const(-2, 0); return api.ErrArg },
		"wrong told":    func(m *wire.Machine) api.Errno { m.Told(2, 0); return api.ErrArg },
		"wrong pair":    func(m *wire.Machine) api.Errno { m.Two(api.Xor, 0, 0, 9); return api.ErrArg },
		"wrong one":     func(m *wire.Machine) api.Errno { m.One(api.Rot, 0, 0, 64); return api.ErrArg },
		"wrong open":    func(m *wire.Machine) api.Errno { m.Open(0, 1, 2); return api.ErrArg },
		"wrong begin":   func(m *wire.Machine) api.Errno { m.Begin(0); return api.ErrArg },
		"begun twice":   func(m *wire.Machine) api.Errno { m.Begin(1); m.Begin(1); return api.ErrArg },
		"nothing begun": func(m *wire.Machine) api.Errno { m.End(); return api.ErrArg },
		"too many ops": func(m *wire.Machine) api.Errno {
			m.Const(0, 1)
			m.Const(0, 1)
			m.Const(0, 1)
			return api.ErrSize
		},
		"too many masks": func(m *wire.Machine) api.Errno { m.Rand(0); m.Rand(0); return api.ErrRandom },
	}
}

// TestErrorsStay: behind an error nothing is done, right or wrong, and the first error is told.
func TestErrorsStay(t *testing.T) {
	for what, fail := range failures() {
		masks := tape.New(someWords(9, 50))
		masks.Reserve(1)
		m := made(t, 2, masks, 5)
		m.Begin(api.Fresh)
		m.Const(0, 8)
		m.Const(1, 9)
		m.End()
		m.Const(0, 10)
		want := fail(m)
		is(t, what+": Err", m.Err(), want)
		masks.Reserve(10)
		used, length, draws, did, words := masks.Used(), m.Len(), m.Draws(), m.Trace(), m.Values()
		is(t, what+": Draws", draws, used)
		is(t, what+": words", len(words), length)
		for behind, got := range map[string]int{
			"Do":         m.Do(free(api.Const, 0, 1), 0),
			"a wrong Do": m.Do(free(api.Open, 0, 1), 0),
			"Rand":       m.Rand(1),
			"Key":        m.Key(1, 0, -1),
			"Const":      m.Const(0, 1),
			"Told":       m.Told(0, 1),
			"Two":        m.Two(api.Xor, 0, 0, 1),
			"One":        m.One(api.Not, 0, 0, 0),
		} {
			is(t, what+", then "+behind, got, -1)
		}
		is(t, what+", then Open", m.Open(0, 1, -1), 0)
		m.End()
		m.Begin(api.Times)
		m.End()
		m.End()
		is(t, what+", then more: Err", m.Err(), want)
		is(t, what+", then more: Len", m.Len(), length)
		is(t, what+", then more: Draws", m.Draws(), draws)
		is(t, what+", then more: drawn", masks.Used(), used)
		are(t, what+", then more: ops", m.Trace().Ops, did.Ops...)
		are(t, what+", then more: blocks", m.Trace().Blocks, api.Span{Kind: api.Fresh, From: 0, To: 2})
		are(t, what+", then more: words", m.Values(), words...)
		is(t, what+", then more: N", m.N(), 2)
		is(t, what+": Check", trace.Check(m.Trace()), api.OK)
	}
}

// TestBlocksBehindAnError: a block that is open when an error comes stays open, and is none.
func TestBlocksBehindAnError(t *testing.T) {
	m := made(t, 2, tape.New(nil), 9)
	m.Begin(api.Encode)
	m.Const(0, 1)
	m.Rand(0)
	m.End()
	is(t, "Err", m.Err(), api.ErrRandom)
	are(t, "blocks", m.Trace().Blocks)
	is(t, "Len", m.Len(), 1)
}

// --- P19.2 ---

// TestCallsOfOneOp: each call does the op that its words tell, with -1 for all registers that it is not given.
func TestCallsOfOneOp(t *testing.T) {
	const c = 0xfedcba9876543210
	for n := 2; n <= 3; n++ {
		second, third := -1, -1
		if n == 3 {
			second, third = 2, 1
		}
		for _, r := range []struct {
			what string
			call func(m *wire.Machine) int
			want api.Op
		}{
			{"Rand", func(m *wire.Machine) int { return m.Rand(1) }, free(api.Rand, 1, 0)},
			{"Rand of no domain", func(m *wire.Machine) int { return m.Rand(-1) }, free(api.Rand, -1, 0)},
			{"Rand of the last domain", func(m *wire.Machine) int { return m.Rand(n - 1) }, free(api.Rand, n-1, 0)},
			{"Const", func(m *wire.Machine) int { return m.Const(1, c) }, free(api.Const, 1, c)},
			{"Const of no domain", func(m *wire.Machine) int { return m.Const(-1, 0) }, free(api.Const, -1, 0)},
			{"Told", func(m *wire.Machine) int { return m.Told(1, c) }, free(api.Told, 1, c)},
			{"Told of no domain", func(m *wire.Machine) int { return m.Told(-1, 1) }, free(api.Told, -1, 1)},
			{"Key", func(m *wire.Machine) int { return m.Key(5, 1, second) }, api.Op{Kind: api.Key, Dom: 0, A: 1, B: second, D: -1, C: 1}},
			{"Two of xor", func(m *wire.Machine) int { return m.Two(api.Xor, 1, 2, 0) }, two(api.Xor, 1, 2, 0)},
			{"Two of and", func(m *wire.Machine) int { return m.Two(api.And, -1, 0, 2) }, two(api.And, -1, 0, 2)},
			{"Two of rand", func(m *wire.Machine) int { return m.Two(api.Rand, 1, -1, -1) }, free(api.Rand, 1, 0)},
			{"One of not", func(m *wire.Machine) int { return m.One(api.Not, 1, 2, 0) }, one(api.Not, 1, 2, 0)},
			{"One of mask", func(m *wire.Machine) int { return m.One(api.Mask, 0, 1, c) }, one(api.Mask, 0, 1, c)},
			{"One of shl", func(m *wire.Machine) int { return m.One(api.Shl, -1, 2, 63) }, one(api.Shl, -1, 2, 63)},
			{"One of shr", func(m *wire.Machine) int { return m.One(api.Shr, 1, 0, 1) }, one(api.Shr, 1, 0, 1)},
			{"One of rot", func(m *wire.Machine) int { return m.One(api.Rot, 0, 2, 40) }, one(api.Rot, 0, 2, 40)},
			{"One of const", func(m *wire.Machine) int { return m.One(api.Const, 0, -1, c) }, free(api.Const, 0, c)},
			{"Open", func(m *wire.Machine) int { m.Open(2, 0, third); return m.Len() - 1 }, opened(2, 0, third)},
		} {
			what := fmt.Sprint(r.what, ", ", n, " shares")
			m, p := begun(t, n, 3)
			is(t, what+": register", r.call(m), 3)
			is(t, what+": Err", m.Err(), api.OK)
			is(t, what+": op", m.Trace().Ops[3], r.want)
			p.Do(r.want, 5)
			are(t, what+": words", m.Values(), p.Values()...)
			is(t, what+": Draws", m.Draws(), p.Draws())
		}
	}
}

// TestCallsThatAreRefused: what may not stand there is ErrArg of each call.
func TestCallsThatAreRefused(t *testing.T) {
	for what, call := range map[string]func(m *wire.Machine) int{
		"Rand of domain -2":    func(m *wire.Machine) int { return m.Rand(-2) },
		"Rand of domain 2":     func(m *wire.Machine) int { return m.Rand(2) },
		"Const of domain -2":   func(m *wire.Machine) int { return m.Const(-2, 0) },
		"Const of domain 2":    func(m *wire.Machine) int { return m.Const(2, 0) },
		"Told of domain -2":    func(m *wire.Machine) int { return m.Told(-2, 0) },
		"Told of domain 2":     func(m *wire.Machine) int { return m.Told(2, 0) },
		"Key without a":        func(m *wire.Machine) int { return m.Key(1, -1, -1) },
		"Key of two registers": func(m *wire.Machine) int { return m.Key(1, 0, 1) },
		"Key of the second":    func(m *wire.Machine) int { return m.Key(1, -1, 0) },
		"Key of a later one":   func(m *wire.Machine) int { return m.Key(1, 3, -1) },
		"Two of not":           func(m *wire.Machine) int { return m.Two(api.Not, 0, 0, 1) },
		"Two of open":          func(m *wire.Machine) int { return m.Two(api.Open, 0, 0, 1) },
		"Two of a second key":  func(m *wire.Machine) int { return m.Two(api.Key, 0, 0, -1) },
		"Two without a":        func(m *wire.Machine) int { return m.Two(api.Xor, 0, -1, 0) },
		"Two without b":        func(m *wire.Machine) int { return m.Two(api.Xor, 0, 0, -1) },
		"Two of kind 0":        func(m *wire.Machine) int { return m.Two(0, 0, 0, 0) },
		"One of xor":           func(m *wire.Machine) int { return m.One(api.Xor, 0, 0, 0) },
		"One of far moves":     func(m *wire.Machine) int { return m.One(api.Shr, 0, 0, 64) },
		"One of a mark of not": func(m *wire.Machine) int { return m.One(api.Not, 0, 0, 1) },
		"One of kind 13":       func(m *wire.Machine) int { return m.One(13, 0, 0, 0) },
		"One of a first key":   func(m *wire.Machine) int { return m.One(api.Key, 0, 0, 0) },
	} {
		masks := reserved(1, 2, 3, 4)
		m := made(t, 2, masks, 9)
		m.Rand(1)
		m.Key(7, 0, -1)
		m.Const(0, 1)
		is(t, what, call(m), -1)
		is(t, what+": Err", m.Err(), api.ErrArg)
		is(t, what+": Len", m.Len(), 3)
		is(t, what+": drawn", masks.Used(), 1)
	}
	m, _ := begun(t, 3, 3)
	is(t, "three shares: Key of one register", m.Key(1, 0, -1), -1)
	is(t, "three shares: Key of one register: Err", m.Err(), api.ErrArg)
}

// TestKeysOfCalls: Key, Do, Two and One of a key op go on with one row of constants.
func TestKeysOfCalls(t *testing.T) {
	m := made(t, 2, reserved(6), 20)
	m.Rand(1)
	is(t, "Two of the first key", m.Two(api.Key, 1, 0, -1), 1)
	is(t, "Key", m.Key(3, 0, -1), 2)
	is(t, "One of the third key", m.One(api.Key, 1, 0, 2), 3)
	is(t, "Do of the fourth key", m.Do(one(api.Key, -1, 0, 3), 4), 4)
	is(t, "Key again", m.Key(5, 4, -1), 5)
	// Those that are handed no word have 0.
	are(t, "words", m.Values(), 6, 6, 3^6, 6, 4^6, 5^4^6)
	for i, o := range m.Trace().Ops[1:] {
		is(t, fmt.Sprint("constant of key ", i), o.C, uint64(i))
	}
}

// TestOpen: what is opened is the words, put together; 0 with an error.
func TestOpen(t *testing.T) {
	for _, x := range farWords() {
		for _, y := range farWords() {
			m := made(t, 2, tape.New(nil), 9)
			m.Const(0, x)
			m.Const(1, y)
			is(t, "of two shares", m.Open(0, 1, -1), x^y)
			is(t, "of one twice", m.Open(1, 1, -1), 0)
			m = made(t, 3, tape.New(nil), 9)
			m.Const(0, x)
			m.Const(1, y)
			m.Const(2, 0x5555)
			is(t, "of three shares", m.Open(0, 1, 2), x^y^0x5555)
			is(t, "of three shares, turned", m.Open(2, 0, 0), 0x5555)
			is(t, "of what was opened", m.Open(3, 2, 4), x^y^0x5555)
		}
	}
	for what, r := range map[string][3]int{"no a": {-1, 1, -1}, "no b": {1, -1, -1}, "a d": {1, 0, 0}, "a d below": {1, 0, -2}, "itself": {2, 0, -1}, "a late b": {0, 2, -1}} {
		m := made(t, 2, tape.New(nil), 9)
		m.Const(0, 5)
		m.Const(1, 9)
		is(t, what, m.Open(r[0], r[1], r[2]), 0)
		is(t, what+": Err", m.Err(), api.ErrArg)
		is(t, what+": Len", m.Len(), 2)
		is(t, what+", then a right one", m.Open(0, 1, -1), 0)
	}
	m := made(t, 2, tape.New(nil), 2)
	m.Const(0, 5)
	m.Const(1, 9)
	is(t, "behind the bound", m.Open(0, 1, -1), 0)
	is(t, "behind the bound: Err", m.Err(), api.ErrSize)
	m = made(t, 3, tape.New(nil), 9)
	m.Const(0, 5)
	m.Const(1, 9)
	is(t, "three shares, without d", m.Open(0, 1, -1), 0)
	is(t, "three shares, without d: Err", m.Err(), api.ErrArg)
}

// --- P19.3: blocks ---

func TestBlocks(t *testing.T) {
	for n := 2; n <= 3; n++ {
		m := made(t, n, reserved(1, 2, 3), 30)
		m.Const(0, 1)
		m.Begin(api.Times)
		are(t, "open, without an op", m.Trace().Blocks)
		m.Rand(0)
		m.Rand(1)
		are(t, "open", m.Trace().Blocks)
		is(t, "a trace with a block that is open", trace.Check(m.Trace()), api.OK)
		m.End()
		are(t, "one", m.Trace().Blocks, api.Span{Kind: api.Times, From: 1, To: 3})
		// One behind the other, without an op between.
		m.Begin(api.Encode)
		m.Const(0, 1)
		m.End()
		m.Const(0, 1)
		m.Begin(api.Fresh)
		m.Const(0, 1)
		m.Const(0, 1)
		m.Const(0, 1)
		are(t, "two, and one that is open", m.Trace().Blocks, api.Span{Kind: api.Times, From: 1, To: 3}, api.Span{Kind: api.Encode, From: 3, To: 4})
		m.End()
		m.Const(0, 1)
		are(t, "three", m.Trace().Blocks, api.Span{Kind: api.Times, From: 1, To: 3}, api.Span{Kind: api.Encode, From: 3, To: 4}, api.Span{Kind: api.Fresh, From: 5, To: 8})
		is(t, "Err", m.Err(), api.OK)
		is(t, "Check", trace.Check(m.Trace()), api.OK)
	}
}

// TestBlocksWithoutOps: they may be begun and ended, and are none.
func TestBlocksWithoutOps(t *testing.T) {
	m := made(t, 2, tape.New(nil), 9)
	for kind := api.Encode; kind <= api.Times; kind++ {
		m.Begin(kind)
		m.End()
	}
	m.Const(0, 1)
	for kind := api.Encode; kind <= api.Times; kind++ {
		m.Begin(kind)
		m.End()
	}
	is(t, "Err", m.Err(), api.OK)
	are(t, "blocks", m.Trace().Blocks)
	is(t, "Check", trace.Check(m.Trace()), api.OK)
	m.Begin(api.Fresh)
	m.Const(0, 1)
	m.End()
	are(t, "blocks", m.Trace().Blocks, api.Span{Kind: api.Fresh, From: 1, To: 2})
}

func TestBlocksThatAreRefused(t *testing.T) {
	for _, kind := range otherBlocks() {
		m := made(t, 2, tape.New(nil), 9)
		m.Begin(kind)
		is(t, fmt.Sprint("Begin of ", kind), m.Err(), api.ErrArg)
		is(t, fmt.Sprint("Begin of ", kind, ", then Const"), m.Const(0, 1), -1)
	}
	for first := api.Encode; first <= api.Times; first++ {
		for _, second := range append(otherBlocks(), 1, 2, 3) {
			for ops := range 3 {
				m := made(t, 2, tape.New(nil), 9)
				m.Begin(first)
				for range ops {
					m.Const(0, 1)
				}
				is(t, "one is open", m.Err(), api.OK)
				m.Begin(second)
				is(t, fmt.Sprint("Begin of ", second, " while ", first, " is open"), m.Err(), api.ErrArg)
				m.End()
				are(t, "blocks", m.Trace().Blocks)
			}
		}
	}
	for ops := range 3 {
		m := made(t, 2, tape.New(nil), 9)
		for range ops {
			m.Const(0, 1)
		}
		m.End()
		is(t, "End of none", m.Err(), api.ErrArg)
		m = made(t, 2, tape.New(nil), 9)
		m.Begin(1)
		for range ops {
			m.Const(0, 1)
		}
		m.End()
		is(t, "End", m.Err(), api.OK)
		m.End()
		is(t, "a second End", m.Err(), api.ErrArg)
	}
}

// TestBlocksAtTheBound: blocks are no ops, so that they may begin and end where no op is left.
func TestBlocksAtTheBound(t *testing.T) {
	m := made(t, 2, tape.New(nil), 1)
	m.Begin(1)
	m.Const(0, 1)
	m.End()
	m.Begin(2)
	m.End()
	is(t, "Err", m.Err(), api.OK)
	are(t, "blocks", m.Trace().Blocks, api.Span{Kind: 1, From: 0, To: 1})
}

// --- P19.3: what a machine tells ---

// TestCounts: what is told grows op by op.
func TestCounts(t *testing.T) {
	for n := 2; n <= 3; n++ {
		m := made(t, n, reserved(5, 6, 7), 20)
		for i, r := range []struct {
			do    func()
			draws int
		}{
			{func() { m.Rand(1) }, 1},
			{func() { m.Const(0, 2) }, 1},
			{func() { m.Do(free(api.Rand, 0, 0), 9) }, 2},
			{func() { m.Two(api.Xor, 0, 0, 1) }, 2},
			{func() { m.Key(9, 0, []int{-1, 0}[n-2]) }, 2},
			{func() { m.Rand(-1) }, 3},
			{func() { m.Open(0, 0, []int{-1, 0}[n-2]) }, 3},
		} {
			r.do()
			is(t, "Len", m.Len(), i+1)
			is(t, "Draws", m.Draws(), r.draws)
			is(t, "N", m.N(), n)
			is(t, "Err", m.Err(), api.OK)
			is(t, "words", len(m.Values()), i+1)
			is(t, "ops", len(m.Trace().Ops), i+1)
			is(t, "Trace's N", m.Trace().N, n)
		}
	}
}

// TestWhatIsToldIsNew: what is told is changed without the machine, and stays as it is while that goes on.
func TestWhatIsToldIsNew(t *testing.T) {
	m := made(t, 2, tape.New(nil), 99)
	for range 5 {
		m.Begin(1)
		m.Const(0, 7)
		m.End()
	}
	first, words := m.Trace(), m.Values()
	for i := range first.Ops {
		first.Ops[i], words[i], first.Blocks[i] = api.Op{Kind: 77}, 99, api.Span{Kind: 9}
	}
	// What lies behind the lists' lengths must not be the machine's either.
	_ = append(first.Ops[:2:cap(first.Ops)], make([]api.Op, cap(first.Ops)-2)...)
	_ = append(words[:2:cap(words)], make([]uint64, cap(words)-2)...)
	_ = append(first.Blocks[:2:cap(first.Blocks)], make([]api.Span, cap(first.Blocks)-2)...)
	second, again := m.Trace(), m.Values()
	m.Two(api.Xor, 0, 0, 1)
	m.Begin(2)
	m.Const(0, 1)
	m.End()
	are(t, "words", again, 7, 7, 7, 7, 7)
	are(t, "words, gone on with", m.Values(), 7, 7, 7, 7, 7, 0, 1)
	is(t, "ops", len(second.Ops), 5)
	is(t, "blocks", len(second.Blocks), 5)
	for i := range 5 {
		is(t, "op", second.Ops[i], free(api.Const, 0, 7))
		is(t, "block", second.Blocks[i], api.Span{Kind: 1, From: i, To: i + 1})
	}
	is(t, "ops, gone on with", len(m.Trace().Ops), 7)
	is(t, "blocks, gone on with", len(m.Trace().Blocks), 6)
	for i := range 5 {
		is(t, "op, gone on with", m.Trace().Ops[i], free(api.Const, 0, 7))
	}
}

// TestTellingChangesNothing: no call that tells something makes another answer.
func TestTellingChangesNothing(t *testing.T) {
	masks := reserved(4, 5)
	m := made(t, 2, masks, 9)
	m.Rand(1)
	m.Begin(1)
	m.Const(0, 3)
	for range 3 {
		d := m.Dry()
		d.Rand(0)
		d.Begin(2)
		m.Trace()
		m.Values()
		m.N()
		m.Draws()
		m.Err()
	}
	m.End()
	m.Rand(0)
	is(t, "Err", m.Err(), api.OK)
	are(t, "words", m.Values(), 4, 3, 5)
	are(t, "blocks", m.Trace().Blocks, api.Span{Kind: 1, From: 1, To: 2})
	is(t, "Used", masks.Used(), 2)
}

// --- P19.3: dry machines ---

// TestDry: it goes on from where a machine is, and counts.
func TestDry(t *testing.T) {
	for n := 2; n <= 3; n++ {
		second := []int{-1, 0}[n-2]
		masks := reserved(4, 5, 6)
		m := made(t, n, masks, 5)
		m.Rand(1)
		m.Rand(1)
		m.Key(8, 0, second)
		m.Begin(2)
		m.Const(0, 9)
		d := m.Dry()
		dry := func(what string, length, draws int) {
			t.Helper()
			is(t, what+": N", d.N(), n)
			is(t, what+": Len", d.Len(), length)
			is(t, what+": Draws", d.Draws(), draws)
			is(t, what+": Err", d.Err(), api.OK)
			is(t, what+": words", len(d.Values()), 0)
			is(t, what+": Trace's N", d.Trace().N, n)
			is(t, what+": ops", len(d.Trace().Ops), 0)
			is(t, what+": blocks", len(d.Trace().Blocks), 0)
		}
		dry("new", 4, 0)
		is(t, "Rand", d.Rand(0), 4)
		dry("Rand", 5, 1)
		is(t, "beyond the bound", d.Two(api.Xor, 0, 0, 4), 5)
		dry("beyond the bound", 6, 1)
		is(t, "Key", d.Key(8, 5, []int{-1, 5}[n-2]), 6)
		is(t, "a key's next constant", d.Do(keyOp(n, 2), 7), 7)
		dry("keys", 8, 1)
		is(t, "Open", d.Open(0, 7, []int{-1, 0}[n-2]), math.MaxUint64)
		dry("Open", 9, 1)
		for range 5 {
			d.Rand(1)
		}
		dry("beyond the tape", 14, 6)
		// The machine's block is not the dry one's.
		d.Begin(3)
		d.Const(0, 1)
		dry("a block that is open", 15, 6)
		d.End()
		d.Begin(3)
		d.End()
		dry("blocks", 15, 6)
		// And the machine is where it was.
		is(t, "the machine's Len", m.Len(), 4)
		is(t, "the machine's Draws", m.Draws(), 2)
		is(t, "drawn", masks.Used(), 2)
		m.End()
		are(t, "the machine's blocks", m.Trace().Blocks, api.Span{Kind: 2, From: 3, To: 4})
		is(t, "the machine goes on", m.Key(1, 0, second), 4)
		is(t, "the machine's key", m.Trace().Ops[4].C, 1)
		dry("then the machine", 15, 6)
	}
}

// TestDryErrors: what may not stand there is ErrArg of a dry machine too, and stays; no other error comes.
func TestDryErrors(t *testing.T) {
	for n := 2; n <= 3; n++ {
		m, p := begun(t, n, 3)
		for _, o := range smallOps(3, n) {
			d, want := m.Dry(), p.Dry()
			what := fmt.Sprintf("%d shares, dry, %+v", n, o)
			is(t, what, d.Do(o, 5), want.Do(o, 5))
			is(t, what+": Err", d.Err(), want.Err())
			is(t, what+": Len", d.Len(), want.Len())
			is(t, what+": Draws", d.Draws(), want.Draws())
		}
	}
	m, _ := begun(t, 2, 3)
	for what, fail := range map[string]func(d *wire.Machine){
		"op":         func(d *wire.Machine) { d.Do(api.Op{}, 0) },
		"rand":       func(d *wire.Machine) { d.Rand(2) },
		"key":        func(d *wire.Machine) { d.Do(one(api.Key, 0, 0, 0), 0) },
		"open":       func(d *wire.Machine) { d.Open(0, 1, 2) },
		"open early": func(d *wire.Machine) { d.Open(0, 3, -1) },
		"begin":      func(d *wire.Machine) { d.Begin(4) },
		"begin none": func(d *wire.Machine) { d.Begin(0) },
		"two begins": func(d *wire.Machine) { d.Begin(1); d.Begin(2) },
		"end":        func(d *wire.Machine) { d.End() },
		"two ends":   func(d *wire.Machine) { d.Begin(1); d.Const(0, 1); d.End(); d.End() },
	} {
		d := m.Dry()
		fail(d)
		is(t, what+": Err", d.Err(), api.ErrArg)
		length := d.Len()
		is(t, what+", then Const", d.Const(0, 1), -1)
		is(t, what+", then Rand", d.Rand(0), -1)
		is(t, what+", then Key", d.Key(1, 0, -1), -1)
		is(t, what+", then Open", d.Open(0, 1, -1), 0)
		d.End()
		d.Begin(1)
		is(t, what+": Len", d.Len(), length)
		is(t, what+": Draws", d.Draws(), 0)
		is(t, what+": Err", d.Err(), api.ErrArg)
		is(t, what+": the machine's Err", m.Err(), api.OK)
	}
}

// TestDryOfAnError: a dry machine has none, whatever its machine has.
func TestDryOfAnError(t *testing.T) {
	for what, fail := range failures() {
		m := made(t, 2, reserved(1), 5)
		m.Const(0, 8)
		m.Const(1, 9)
		m.Const(0, 10)
		want := fail(m)
		length := m.Len()
		d := m.Dry()
		is(t, what+": Err", d.Err(), api.OK)
		is(t, what+": Len", d.Len(), length)
		is(t, what+": Draws", d.Draws(), 0)
		d.Begin(1)
		is(t, what+": goes on", d.Rand(1), length)
		is(t, what+": goes on", d.Open(0, length, -1), math.MaxUint64)
		d.End()
		is(t, what+": goes on: Err", d.Err(), api.OK)
		is(t, what+": the machine's Err", m.Err(), want)
		is(t, what+": the machine's Len", m.Len(), length)
		is(t, what+": the machine goes on", m.Const(0, 1), -1)
	}
}

// TestDryOfADryMachine: it goes on from where that is.
func TestDryOfADryMachine(t *testing.T) {
	m := made(t, 2, reserved(1), 3)
	m.Rand(1)
	m.Key(1, 0, -1)
	d := m.Dry()
	d.Rand(1)
	d.Key(1, 2, -1)
	d.Begin(1)
	dd := d.Dry()
	is(t, "Len", dd.Len(), 4)
	is(t, "Draws", dd.Draws(), 0)
	is(t, "N", dd.N(), 2)
	dd.End()
	is(t, "no block is open", dd.Err(), api.ErrArg)
	dd = d.Dry()
	is(t, "a key's next constant", dd.Do(one(api.Key, 0, 3, 2), 0), 4)
	is(t, "Rand", dd.Rand(0), 5)
	is(t, "Open", dd.Open(5, 0, -1), math.MaxUint64)
	is(t, "Draws", dd.Draws(), 1)
	is(t, "the first one's Len", d.Len(), 4)
	is(t, "the first one's Draws", d.Draws(), 1)
	d.End()
	is(t, "the first one's Err", d.Err(), api.OK)
}

// TestDryWithoutABound: more ops than any machine may do.
func TestDryWithoutABound(t *testing.T) {
	const many = 1<<20 + 9
	d := made(t, 3, tape.New(nil), 0).Dry()
	for i := range many {
		if d.Rand(i%4-1) != i {
			t.Fatalf("op %d was not done", i)
		}
	}
	is(t, "Len", d.Len(), many)
	is(t, "Draws", d.Draws(), many)
	is(t, "Err", d.Err(), api.OK)
	is(t, "Open", d.Open(0, many-1, 1), math.MaxUint64)
	is(t, "Err", d.Err(), api.OK)
}

// TestDryKeys: a key op's constant is below 2^20 (17), and so are as many key ops as may stand.
func TestDryKeys(t *testing.T) {
	d := made(t, 2, tape.New(nil), 0).Dry()
	d.Rand(0)
	for i := range 1 << 20 {
		if d.Key(5, i, -1) != i+1 {
			t.Fatalf("key op %d was not done", i)
		}
	}
	is(t, "Err", d.Err(), api.OK)
	is(t, "one more", d.Key(5, 0, -1), -1)
	is(t, "one more: Err", d.Err(), api.ErrArg)
	is(t, "Len", d.Len(), 1<<20+1)
}

// --- P19.3: nobody's ---

func TestNobodysMachine(t *testing.T) {
	for range 2 {
		var m *wire.Machine
		m.Begin(1)
		m.End()
		m.End()
		is(t, "Do", m.Do(free(api.Const, 0, 1), 0), -1)
		is(t, "Do of nothing", m.Do(api.Op{}, 0), -1)
		is(t, "Rand", m.Rand(0), -1)
		is(t, "Key", m.Key(1, 0, -1), -1)
		is(t, "Const", m.Const(0, 1), -1)
		is(t, "Told", m.Told(0, 1), -1)
		is(t, "Two", m.Two(api.Xor, 0, 0, 0), -1)
		is(t, "One", m.One(api.Not, 0, 0, 0), -1)
		is(t, "Open", m.Open(0, 0, -1), 0)
		is(t, "N", m.N(), 0)
		is(t, "Len", m.Len(), 0)
		is(t, "Draws", m.Draws(), 0)
		is(t, "Err", m.Err(), api.ErrArg)
		is(t, "Trace's N", m.Trace().N, 0)
		is(t, "Trace's Ops", len(m.Trace().Ops), 0)
		is(t, "Trace's Blocks", len(m.Trace().Blocks), 0)
		is(t, "Values", len(m.Values()), 0)
		is(t, "Dry", m.Dry(), nil)
	}
}

// TestMachineThatNewDidNotMake: nothing is promised of it, but that no call panics, and that all end.
func TestMachineThatNewDidNotMake(t *testing.T) {
	for _, o := range smallOps(1, 2) {
		m := &wire.Machine{}
		m.Do(o, 1)
	}
	for _, call := range []func(m *wire.Machine){
		func(m *wire.Machine) { m.Rand(0) },
		func(m *wire.Machine) { m.Key(0, -1, -1) },
		func(m *wire.Machine) { m.Const(0, 0) },
		func(m *wire.Machine) { m.Told(0, 0) },
		func(m *wire.Machine) { m.Two(5, 0, 0, 0) },
		func(m *wire.Machine) { m.One(6, 0, 0, 0) },
		func(m *wire.Machine) { m.Open(0, 0, 0) },
		func(m *wire.Machine) { m.Begin(1) },
		func(m *wire.Machine) { m.End() },
		func(m *wire.Machine) { m.Begin(1); m.Const(0, 0); m.End() },
	} {
		m := &wire.Machine{}
		call(m)
		m.N()
		m.Len()
		m.Draws()
		m.Err()
		m.Trace()
		m.Values()
		if d := m.Dry(); d != nil {
			call(d)
			d.Trace()
		}
	}
}

// --- P19.4, and all promises at once ---

// asking is one call, of the machine and of the plain one alike.
type asking func(d doer) uint64

// ask is a call that a rule scatters, right ones mostly.
func ask(pick func(int) int, n, at, keys int, wild int) asking {
	reg := func() int {
		if pick(wild) == 0 || at == 0 {
			return pick(at+3) - 2
		}
		return pick(at)
	}
	last := func() int {
		if n == 3 || pick(wild) == 0 {
			return reg()
		}
		return -1
	}
	dom := pick(n+1) - 1
	if pick(wild) == 0 {
		dom = pick(6) - 2
	}
	a, b, d, c := reg(), reg(), last(), uint64(pick(1<<30))<<34^uint64(pick(1<<30))
	switch pick(12) {
	case 0:
		return func(m doer) uint64 { return uint64(m.Rand(dom)) }
	case 1:
		return func(m doer) uint64 { return uint64(m.Key(c, a, d)) }
	case 2:
		return func(m doer) uint64 { return uint64(m.Const(dom, c)) }
	case 3:
		return func(m doer) uint64 { return uint64(m.Told(dom, c)) }
	case 4:
		kind := []int{api.Xor, api.And}[pick(2)]
		return func(m doer) uint64 { return uint64(m.Two(kind, dom, a, b)) }
	case 5:
		kind := []int{api.Mask, api.Shl, api.Shr, api.Rot}[pick(4)]
		return func(m doer) uint64 { return uint64(m.One(kind, dom, a, c%64)) }
	case 6:
		return func(m doer) uint64 { return uint64(m.One(api.Not, dom, a, 0)) }
	case 7:
		return func(m doer) uint64 { return m.Open(a, b, d) }
	case 8, 9:
		kind := 1 + pick(3)
		return func(m doer) uint64 { m.Begin(kind); return 0 }
	case 10:
		return func(m doer) uint64 { m.End(); return 0 }
	}
	o := api.Op{Kind: 1 + pick(12), Dom: dom, A: a, B: b, D: d}
	for i, r := range []*int{&o.A, &o.B, &o.D} {
		if i >= op.Regs(o.Kind, n) {
			*r = -1
		}
	}
	switch o.Kind {
	case 2:
		o.C = uint64(keys)
	case 3, 4, 8:
		o.C = c
	case 9, 10, 11:
		o.C = c % 64
	case 12:
		o.Dom = -1
	}
	return func(m doer) uint64 { return uint64(m.Do(o, c)) }
}

// TestAsPlainly: a machine is asked as the plain one is, at random, and tells the same at each step.
func TestAsPlainly(t *testing.T) {
	ends := map[api.Errno]int{}
	blocks := 0
	for seed := range uint64(600) {
		pick := scatter(seed*977 + 5)
		n := 2 + pick(2)
		most, wild := 20+pick(200), 1+pick(2000)
		words := someWords(seed, 5+pick(80))
		// Most calls that end in an error are asked of a dry machine instead, so that runs are long enough; of some machines all are.
		all := pick(3) == 0
		spared := func(e api.Errno) bool { return e != api.OK && (all || e == api.ErrArg && pick(20) > 0) }
		m := made(t, n, reserved(words...), most)
		p := &plain{n: n, most: most, masks: words}
		did := func(step int, how string, a asking, m, p doer) {
			t.Helper()
			what := fmt.Sprint("seed ", seed, ", step ", step, how)
			is(t, what, a(m), a(p))
			alike(t, what, m, p)
		}
		for step := range 150 {
			a := ask(pick, n, p.Len(), p.keys+p.count(2), wild)
			// Blocks that can't be begun or ended would end too many of the runs.
			if step%3 > 0 && len(p.open) == 0 && pick(4) == 0 {
				a = func(m doer) uint64 { m.Begin(2); return 0 }
			}
			trial := *p
			if a(&trial); p.err == api.OK && spared(trial.err) {
				did(step, ", dry", a, m.Dry(), p.Dry())
				continue
			}
			did(step, "", a, m, p)
		}
		ends[m.Err()]++
		blocks += len(p.blocks)
		if t.Failed() {
			return
		}
	}
	for _, e := range []api.Errno{api.OK, api.ErrArg, api.ErrRandom, api.ErrSize} {
		if ends[e] < 5 {
			t.Errorf("only %d runs end with error %d", ends[e], e)
		}
	}
	if blocks < 500 {
		t.Errorf("only %d blocks", blocks)
	}
}

// TestDryAsPlainly: dry machines are asked as plain ones are.
func TestDryAsPlainly(t *testing.T) {
	for seed := range uint64(300) {
		pick := scatter(seed*31 + 7)
		n := 2 + pick(2)
		m, p := begun(t, n, pick(9))
		d, dp := m.Dry(), p.Dry()
		for step := range 100 {
			a := ask(pick, n, dp.Len(), dp.keys+dp.count(2), 500)
			trial := *dp
			if a(&trial); trial.err != 0 && pick(60) > 0 {
				continue
			}
			what := fmt.Sprint("dry, seed ", seed, ", step ", step)
			is(t, what, a(d), a(dp))
			alike(t, what, d, dp)
		}
		if t.Failed() {
			return
		}
	}
}

// TestTracesMayBe: what a machine did is a trace that may be, and its words are what the trace makes of masks and keys.
func TestTracesMayBe(t *testing.T) {
	longest := 0
	for seed := range uint64(200) {
		pick := scatter(seed*13 + 1)
		n := 2 + pick(2)
		words := someWords(seed, 400)
		m := made(t, n, reserved(words...), 300)
		p := &plain{n: n, most: 300, masks: words}
		var keys []uint64
		for range 400 {
			a := ask(pick, n, m.Len(), p.count(2), 1<<30)
			trial := *p
			if a(&trial); trial.err != 0 {
				continue
			}
			a(m)
			a(p)
			if last := m.Len() - 1; last >= 0 && m.Trace().Ops[last].Kind == api.Key && len(keys) < p.count(2) {
				o, v := m.Trace().Ops[last], m.Values()
				x := v[last] ^ v[o.A]
				if n == 3 {
					x ^= v[o.B]
				}
				keys = append(keys, x)
			}
		}
		did, values := m.Trace(), m.Values()
		is(t, "Check", trace.Check(did), api.OK)
		is(t, "Draws", m.Draws(), trace.Draws(did))
		is(t, "Len", m.Len(), len(did.Ops))
		are(t, "words", values, run(did, keys, words)...)
		longest = max(longest, m.Len())
	}
	if longest < 100 {
		t.Errorf("the longest run has %d ops", longest)
	}
}

// run is each register's word, made of a trace, of keys, and of masks.
func run(tr api.Trace, keys, masks []uint64) []uint64 {
	var v []uint64
	at := func(r int) uint64 {
		if r < 0 {
			return 0
		}
		return v[r]
	}
	for _, o := range tr.Ops {
		a, b, d := at(o.A), at(o.B), at(o.D)
		switch o.Kind {
		case api.Rand:
			v, masks = append(v, masks[0]), masks[1:]
		case api.Key:
			v = append(v, keys[o.C]^a^b)
		case api.Const, api.Told:
			v = append(v, o.C)
		case api.Xor, api.Open:
			v = append(v, a^b^d)
		case api.Not:
			v = append(v, math.MaxUint64-a)
		case api.And:
			v = append(v, a&b)
		case api.Mask:
			v = append(v, a&o.C)
		case api.Shl:
			v = append(v, a<<o.C)
		case api.Shr:
			v = append(v, a>>o.C)
		case api.Rot:
			v = append(v, bits.RotateLeft64(a, int(o.C)))
		}
	}
	return v
}
