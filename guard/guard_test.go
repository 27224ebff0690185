package guard_test

import (
	"bytes"
	"fmt"
	"math"
	"slices"
	"testing"

	"visor/api"
	"visor/fresh"
	"visor/guard"
	"visor/op"
	"visor/share"
	"visor/tape"
	"visor/trace"
	"visor/wire"
)

// farWords is words at their ends, and some between.
func farWords() []uint64 {
	return []uint64{0, 1, 2, 63, 64, 1<<32 - 1, 1 << 32, 1<<63 - 1, 1 << 63, math.MaxUint64 - 1, math.MaxUint64, 0xfedcba9876543210}
}

// scatter tells words, one behind the other, such as a rule of numbers scatters.
func scatter(seed uint64) func() uint64 {
	return func() uint64 {
		seed = seed*6364136223846793005 + 1442695040888963407
		high := seed >> 32
		seed = seed*6364136223846793005 + 1442695040888963407
		return high<<32 | seed>>32
	}
}

// someWords is n words that a rule scatters.
func someWords(seed uint64, n int) []uint64 {
	next := scatter(seed)
	out := make([]uint64, n)
	for i := range out {
		out[i] = next()
	}
	return out
}

// reserved is a tape of words that may all be drawn.
func reserved(words ...uint64) *tape.Tape {
	t := tape.New(words)
	t.Reserve(len(words))
	return t
}

// enough is a tape of as many masks as each call of these tests takes.
func enough() *tape.Tape { return reserved(someWords(5, 40)...) }

// far is a bound of ops that no call of these tests comes to.
const far = 600

// made is a machine that there must be.
func made(t *testing.T, n int, masks *tape.Tape, most int) *wire.Machine {
	t.Helper()
	m, e := wire.New(n, masks, most)
	if m == nil || e != api.OK {
		t.Fatalf("New of %d shares, %d ops: %v, %d", n, most, m, e)
	}
	return m
}

// is holds what a call tells against what it should.
func is[T comparable](t *testing.T, what string, got, want T) {
	t.Helper()
	if got != want {
		t.Errorf("%s: %v, not %v", what, got, want)
	}
}

// are holds a list against what it should be.
func are[T comparable](t *testing.T, what string, got []T, want ...T) {
	t.Helper()
	if !slices.Equal(got, want) {
		t.Errorf("%s: %v, not %v", what, got, want)
	}
}

// word is a word of three registers.
func word(a, b, d int) api.Word { return api.Word{R: [3]int{a, b, d}} }

// lines is ops as lines.
func lines(ops []api.Op) []string {
	var out []string
	for _, o := range ops {
		out = append(out, op.Line(o))
	}
	return out
}

// shareCounts is how many shares a machine may have.
func shareCounts() []int { return []int{2, 3} }

// lower is which bits of a word stand below its bit n, one by one.
func lower(n int) uint64 {
	out := uint64(0)
	for i := range min(n, 64) {
		out |= 1 << i
	}
	return out
}

// begun puts the shares of eight words on a machine, such that the first share of each makes it stand for x, and registers stand neither in the order of shares nor of words.
func begun(m *wire.Machine, x [8]uint64) api.Planes {
	n := m.N()
	rest := someWords(77, 16)
	var w api.Planes
	for j := range w {
		w[j] = word(-1, -1, -1)
	}
	for r := range ahead(n) {
		// 7 has no part in common with 16 or 24, so that each share comes once.
		k := (7*r + 3) % ahead(n)
		j, s := k/n, k%n
		c := rest[2*j+s%2]
		if s == 0 {
			c = x[j] ^ rest[2*j+1]
			if n == 3 {
				c ^= rest[2*j]
			}
		}
		w[j].R[s] = m.Const(s, c)
	}
	return w
}

// ahead is how many ops there are ahead of a call.
func ahead(n int) int { return 8 * n }

// someEight is eight words that a rule scatters.
func someEight(seed uint64) [8]uint64 { return [8]uint64(someWords(seed, 8)) }

// ready is a machine with eight words.
func ready(t *testing.T, n int, masks *tape.Tape, most int) (*wire.Machine, api.Planes) {
	t.Helper()
	m := made(t, n, masks, most)
	return m, begun(m, someEight(9))
}

// asked is a word, by its number, that a call opens: masked by a constant ahead of it, or bare.
type asked struct {
	word int
	low  uint64
	bare bool
}

// call is a call of up to eight words, and what the chapter says of it.
type call struct {
	what string
	// do tells what the call does, as bytes.
	do func(m *wire.Machine, w api.Planes) []byte
	// opens is which words it opens, in order.
	opens []asked
	// told is what it tells, if that is what open ops told.
	told func(x []uint64) []byte
}

// steps does what the chapter says, by calls of the layers below, and tells what was opened.
func (r call) steps(m *wire.Machine, w api.Planes) []uint64 {
	var out []uint64
	for _, o := range r.opens {
		a := w[o.word]
		if !o.bare {
			a = share.One(m, 8, a, o.low)
		}
		a = fresh.Full(m, a)
		out = append(out, m.Open(a.R[0], a.R[1], a.R[2]))
	}
	return out
}

// ops is how many ops it does of n shares.
func (r call) ops(n int) int {
	count := 0
	for _, o := range r.opens {
		count += map[int]int{2: 3, 3: 9}[n] + 1
		if !o.bare {
			count += n
		}
	}
	return count
}

// draws is how many masks it takes of n shares.
func (r call) draws(n int) int { return len(r.opens) * map[int]int{2: 1, 3: 3}[n] }

// stands is what its words stand for, less the bits that are not asked for, if the words that are handed in stand for x.
func (r call) stands(x [8]uint64) []uint64 {
	var out []uint64
	for _, o := range r.opens {
		if o.bare {
			out = append(out, x[o.word])
		} else {
			out = append(out, x[o.word]&o.low)
		}
	}
	return out
}

// calls is each call.
func calls() []call { return slices.Concat(singles(), someBytes(), somePlanes()) }

// singles is Open and Yes.
func singles() []call {
	return []call{
		{
			what:  "Open",
			do:    func(m *wire.Machine, w api.Planes) []byte { return byByte(guard.Open(m, w[3])) },
			opens: []asked{{word: 3, bare: true}},
			told:  func(x []uint64) []byte { return byByte(x[0]) },
		},
		{
			what:  "Yes",
			do:    func(m *wire.Machine, w api.Planes) []byte { return yes(guard.Yes(m, w[5])) },
			opens: []asked{{word: 5, low: 1}},
			told:  func(x []uint64) []byte { return yes(x[0]%2 == 1) },
		},
	}
}

// byByte is a word as bytes.
func byByte(x uint64) []byte {
	var out []byte
	for i := range 8 {
		out = append(out, byte(x>>(8*i)))
	}
	return out
}

// yes is a bool as a byte.
func yes(b bool) []byte {
	if b {
		return []byte{1}
	}
	return []byte{0}
}

// listed is how many bytes there are of the words that someBytes hands in.
const listed = 24

// outside is numbers below 0, and ones behind all bounds, among them those that come round to one of 1 to 64 in fewer bits.
func outside() []int {
	return []int{-1, -2, -8, -64, -255, math.MinInt, math.MinInt + 1, math.MinInt + 9, math.MinInt + 64, math.MinInt / 8, math.MinInt/8 + 3, -1<<32 + 5,
		66, 100, 256 + 3, 65536 + 9, 1<<32 + 5, 1 << 60, 1<<61 + 1, math.MaxInt / 8, math.MaxInt - 1, math.MaxInt}
}

// someBytes is Bytes of none, and of three words, of each number of bytes up to one behind their end, and of others.
func someBytes() []call {
	var out []call
	for n := range listed + 2 {
		out = append(out, bytesOf(n, min(n, listed)))
	}
	for _, n := range outside() {
		there := 0
		if n > 0 {
			there = listed
		}
		out = append(out, bytesOf(n, there), call{
			what: fmt.Sprint("Bytes of no words, ", n, " of them"),
			do:   func(m *wire.Machine, w api.Planes) []byte { return guard.Bytes(m, nil, n) },
			told: func(x []uint64) []byte { return nil },
		})
	}
	return out
}

// bytesOf is Bytes of three words, n of them, of which so many are there.
func bytesOf(n, there int) call {
	list := []int{4, 1, 6}
	r := call{
		what: fmt.Sprint("Bytes, ", n, " of them"),
		do: func(m *wire.Machine, w api.Planes) []byte {
			return guard.Bytes(m, []api.Word{w[4], w[1], w[6]}, n)
		},
		told: func(x []uint64) []byte {
			var all []byte
			for _, one := range x {
				all = append(all, byByte(one)...)
			}
			return all[:there]
		},
	}
	for i, k := range list {
		if there > 8*i {
			r.opens = append(r.opens, asked{word: k, low: lower(8 * (there - 8*i))})
		}
	}
	return r
}

// somePlanes is Planes of each number of bytes up to one behind their end, and of others.
func somePlanes() []call {
	var out []call
	for n := range 66 {
		out = append(out, planesOf(n, min(n, 64)))
	}
	for _, n := range outside() {
		there := 0
		if n > 0 {
			there = 64
		}
		out = append(out, planesOf(n, there))
	}
	return out
}

// planesOf is Planes, n of their bytes, of which so many are there.
func planesOf(n, there int) call {
	r := call{
		what: fmt.Sprint("Planes, ", n, " bytes"),
		do:   func(m *wire.Machine, w api.Planes) []byte { return guard.Planes(m, w, n) },
		told: func(x []uint64) []byte {
			out := make([]byte, there)
			for p := range out {
				for j := range x {
					if x[j]>>p%2 == 1 {
						out[p] += 1 << j
					}
				}
			}
			return out
		},
	}
	if there > 0 {
		for j := range 8 {
			r.opens = append(r.opens, asked{word: j, low: lower(there)})
		}
	}
	return r
}

// every goes through each call, of each number of shares.
func every(do func(what string, r call, n int)) {
	for _, n := range shareCounts() {
		for _, r := range calls() {
			do(fmt.Sprint(r.what, ", ", n, " shares"), r, n)
		}
	}
}

// should is what a call should do: what is opened, and the trace, with what is there ahead of it.
func should(t *testing.T, r call, n int) ([]uint64, api.Trace) {
	t.Helper()
	m, w := ready(t, n, enough(), far)
	x := r.steps(m, w)
	is(t, r.what+": Err of its steps", m.Err(), api.OK)
	return x, m.Trace()
}

// openedOf is what a machine's open ops told.
func openedOf(m *wire.Machine) []uint64 {
	var out []uint64
	v := m.Values()
	for i, o := range m.Trace().Ops {
		if o.Kind == api.Open {
			out = append(out, v[i])
		}
	}
	return out
}

// --- P24.1: Open and Yes, op by op ---

// pair puts two shares on a machine, whose registers do not stand in their order.
func pair(t *testing.T, masks *tape.Tape, a, b uint64) (*wire.Machine, api.Word) {
	t.Helper()
	m := made(t, 2, masks, far)
	m.Const(1, b)
	m.Const(0, a)
	return m, word(1, 0, -1)
}

// triple puts three shares on a machine, whose registers do not stand in their order.
func triple(t *testing.T, masks *tape.Tape, a, b, c uint64) (*wire.Machine, api.Word) {
	t.Helper()
	m := made(t, 3, masks, far)
	m.Const(2, c)
	m.Const(0, a)
	m.Const(1, b)
	return m, word(1, 2, 0)
}

// TestOpenOps: the word is made fully fresh in a block, and all its shares are opened.
func TestOpenOps(t *testing.T) {
	m, a := pair(t, reserved(9), 5, 1<<63|2)
	is(t, "two shares", guard.Open(m, a), 1<<63|7)
	are(t, "two shares: ops", lines(m.Trace().Ops)[2:],
		"rand -1 -1 -1 -1 0",
		"xor 0 1 2 -1 0", "xor 1 0 2 -1 0",
		"open -1 3 4 -1 0",
	)
	are(t, "two shares: blocks", m.Trace().Blocks, api.Span{Kind: 2, From: 2, To: 5})
	are(t, "two shares: words", m.Values()[2:], 9, 12, 1<<63|11, 1<<63|7)

	m, a = triple(t, reserved(16, 32, 64), 1, 2, 4)
	is(t, "three shares", guard.Open(m, a), 7)
	are(t, "three shares: ops", lines(m.Trace().Ops)[3:],
		"rand -1 -1 -1 -1 0", "rand -1 -1 -1 -1 0", "rand -1 -1 -1 -1 0",
		"xor 0 1 3 -1 0", "xor 0 6 4 -1 0",
		"xor 1 2 3 -1 0", "xor 1 8 5 -1 0",
		"xor 2 0 4 -1 0", "xor 2 10 5 -1 0",
		"open -1 7 9 11 0",
	)
	are(t, "three shares: blocks", m.Trace().Blocks, api.Span{Kind: 2, From: 3, To: 12})
	are(t, "three shares: words", m.Values()[3:], 16, 32, 64, 17, 49, 18, 82, 36, 100, 7)
}

// TestYesOps: the word is masked by 1, share by share, ahead of being opened.
func TestYesOps(t *testing.T) {
	m, a := pair(t, reserved(9), 5, 1<<63|2)
	is(t, "two shares", guard.Yes(m, a), true)
	are(t, "two shares: ops", lines(m.Trace().Ops)[2:],
		"mask 0 1 -1 -1 1", "mask 1 0 -1 -1 1",
		"rand -1 -1 -1 -1 0",
		"xor 0 2 4 -1 0", "xor 1 3 4 -1 0",
		"open -1 5 6 -1 0",
	)
	are(t, "two shares: blocks", m.Trace().Blocks, api.Span{Kind: 2, From: 4, To: 7})
	are(t, "two shares: words", m.Values()[2:], 1, 0, 9, 8, 9, 1)

	m, a = triple(t, reserved(16, 32, 64), 3, 3, 4)
	is(t, "three shares", guard.Yes(m, a), false)
	are(t, "three shares: ops", lines(m.Trace().Ops)[3:],
		"mask 0 1 -1 -1 1", "mask 1 2 -1 -1 1", "mask 2 0 -1 -1 1",
		"rand -1 -1 -1 -1 0", "rand -1 -1 -1 -1 0", "rand -1 -1 -1 -1 0",
		"xor 0 3 6 -1 0", "xor 0 9 7 -1 0",
		"xor 1 4 6 -1 0", "xor 1 11 8 -1 0",
		"xor 2 5 7 -1 0", "xor 2 13 8 -1 0",
		"open -1 10 12 14 0",
	)
	are(t, "three shares: blocks", m.Trace().Blocks, api.Span{Kind: 2, From: 6, To: 15})
	are(t, "three shares: words", m.Values()[3:6], 1, 1, 0)
	is(t, "three shares: what is opened", m.Values()[15], 0)
}

// --- P24.2: Bytes and Planes, op by op ---

// TestBytesOps: the first word is masked by all its bytes, and opened, and then the second one by those that are left.
func TestBytesOps(t *testing.T) {
	m, a := pair(t, reserved(9, 10, 11), 0x0807060504030201, 0)
	are(t, "Bytes", guard.Bytes(m, []api.Word{a, a, a}, 10), 1, 2, 3, 4, 5, 6, 7, 8, 1, 2)
	are(t, "Bytes: ops", lines(m.Trace().Ops)[2:],
		"mask 0 1 -1 -1 18446744073709551615", "mask 1 0 -1 -1 18446744073709551615",
		"rand -1 -1 -1 -1 0",
		"xor 0 2 4 -1 0", "xor 1 3 4 -1 0",
		"open -1 5 6 -1 0",
		"mask 0 1 -1 -1 65535", "mask 1 0 -1 -1 65535",
		"rand -1 -1 -1 -1 0",
		"xor 0 8 10 -1 0", "xor 1 9 10 -1 0",
		"open -1 11 12 -1 0",
	)
	are(t, "Bytes: blocks", m.Trace().Blocks, api.Span{Kind: 2, From: 4, To: 7}, api.Span{Kind: 2, From: 10, To: 13})
	is(t, "Bytes: words", m.Values()[7], 0x0807060504030201)
	is(t, "Bytes: words", m.Values()[13], 0x0201)
}

// TestPlanesOps: each plane is masked and opened, one behind the other, from plane 0 on, whose bit p is the lowest one of byte p.
func TestPlanesOps(t *testing.T) {
	m, a := pair(t, reserved(make([]uint64, 8)...), 0b1101, 0)
	none := share.Public(m, 0)
	p := api.Planes{a, none, none, none, none, none, none, a}
	from := m.Len()
	are(t, "Planes", guard.Planes(m, p, 3), 129, 0, 129)
	var want []string
	for j, w := range p {
		r := from + 6*j
		want = append(want,
			fmt.Sprintf("mask 0 %d -1 -1 7", w.R[0]), fmt.Sprintf("mask 1 %d -1 -1 7", w.R[1]),
			"rand -1 -1 -1 -1 0",
			fmt.Sprintf("xor 0 %d %d -1 0", r, r+2), fmt.Sprintf("xor 1 %d %d -1 0", r+1, r+2),
			fmt.Sprintf("open -1 %d %d -1 0", r+3, r+4),
		)
	}
	are(t, "Planes: ops", lines(m.Trace().Ops)[from:], want...)
	are(t, "Planes: what is opened", openedOf(m), 5, 0, 0, 0, 0, 0, 0, 5)
}

// --- all calls ---

// TestSteps: each call does what the chapter's words say, by the layers below, in their order, and nothing else, and tells what is opened.
func TestSteps(t *testing.T) {
	every(func(what string, r call, n int) {
		x, want := should(t, r, n)
		masks := enough()
		m, w := ready(t, n, masks, far)
		are(t, what, r.do(m, w), r.told(x)...)
		are(t, what+": what its words stand for", x, r.stands(someEight(9))...)
		are(t, what+": ops", lines(m.Trace().Ops), lines(want.Ops)...)
		are(t, what+": blocks", m.Trace().Blocks, want.Blocks...)
		is(t, what+": Err", m.Err(), api.OK)
		is(t, what+": Check", trace.Check(m.Trace()), api.OK)
		is(t, what+": Len", m.Len(), ahead(n)+r.ops(n))
		is(t, what+": Opens", len(trace.Opens(m.Trace())), len(r.opens))
		is(t, what+": drawn", masks.Used(), r.draws(n))
	})
}

// TestAgain: a call that is done twice does its ops twice, with new masks, and tells the same; nothing is kept from the first one, and no block stays open.
func TestAgain(t *testing.T) {
	every(func(what string, r call, n int) {
		what += ", again"
		masks := reserved(someWords(6, 80)...)
		m, w := ready(t, n, masks, far)
		first := r.do(m, w)
		are(t, what, r.do(m, w), first...)
		is(t, what+": Len", m.Len(), ahead(n)+2*r.ops(n))
		is(t, what+": drawn", masks.Used(), 2*r.draws(n))
		m.Begin(api.Encode)
		is(t, what+": Err", m.Err(), api.OK)
	})
}

// TestTheThirdOfTwo: a machine of two shares has no third one, whatever register is handed in there.
func TestTheThirdOfTwo(t *testing.T) {
	every(func(what string, r call, n int) {
		if n != 2 {
			return
		}
		x, want := should(t, r, n)
		for _, register := range []int{-2, 0, 1, 2, 50, math.MaxInt, math.MinInt} {
			m, w := ready(t, n, enough(), far)
			for i := range w {
				w[i].R[2] = register
			}
			are(t, what, r.do(m, w), r.told(x)...)
			is(t, what+": Err", m.Err(), api.OK)
			are(t, what+": ops", lines(m.Trace().Ops), lines(want.Ops)...)
		}
	})
}

// --- errors of the machine ---

// stopped holds what a call did that came to so many of its ops: these alone, and of what it did not come to open it tells 0.
func stopped(t *testing.T, what string, r call, m *wire.Machine, got []byte, x []uint64, want api.Trace, did int) {
	t.Helper()
	end := ahead(want.N) + did
	part := make([]uint64, len(x))
	copy(part, x[:len(trace.Opens(api.Trace{N: want.N, Ops: want.Ops[:end]}))])
	are(t, what, got, r.told(part)...)
	are(t, what+": ops", lines(m.Trace().Ops), lines(want.Ops[:end])...)
	blocks := slices.DeleteFunc(slices.Clone(want.Blocks), func(b api.Span) bool { return b.To > end })
	are(t, what+": blocks", m.Trace().Blocks, blocks...)
}

// TestTheBound: ops are done up to the bound, and nothing behind it is told.
func TestTheBound(t *testing.T) {
	every(func(what string, r call, n int) {
		x, want := should(t, r, n)
		for did := range r.ops(n) {
			m, w := ready(t, n, enough(), ahead(n)+did)
			got := r.do(m, w)
			is(t, fmt.Sprint(what, ", a bound of ", did, " ops: Err"), m.Err(), api.ErrSize)
			stopped(t, fmt.Sprint(what, ", a bound of ", did, " ops"), r, m, got, x, want, did)
		}
		m, w := ready(t, n, enough(), ahead(n)+r.ops(n))
		are(t, what+", a bound of as many ops", r.do(m, w), r.told(x)...)
		is(t, what+", a bound of as many ops: Err", m.Err(), api.OK)
	})
}

// TestMasksThatAreMissing: as many masks as are needed are enough, and one fewer is not.
func TestMasksThatAreMissing(t *testing.T) {
	every(func(what string, r call, n int) {
		x, want := should(t, r, n)
		left := 0
		for did, o := range want.Ops[ahead(n):] {
			if o.Kind != api.Rand {
				continue
			}
			short := fmt.Sprint(what, ", masks: ", left)
			masks := tape.New(someWords(5, 40))
			masks.Reserve(left)
			m, w := ready(t, n, masks, far)
			got := r.do(m, w)
			is(t, short+": Err", m.Err(), api.ErrRandom)
			is(t, short+": drawn", masks.Used(), left)
			stopped(t, short, r, m, got, x, want, did)
			left++
		}
		is(t, what+": masks", left, r.draws(n))
		masks := reserved(someWords(4, left)...)
		m, w := ready(t, n, masks, far)
		are(t, what+", as many masks", r.do(m, w), r.told(x)...)
		is(t, what+", as many masks: Err", m.Err(), api.OK)
		is(t, what+", as many masks: left", masks.Left(), 0)
	})
}

// reads is how many ops are done ahead of the first one that reads a register; all, if none does.
func reads(ops []api.Op, register int) int {
	for did, o := range ops {
		if o.A == register || o.B == register {
			return did
		}
	}
	return len(ops)
}

// TestWrongRegisters: a register that is not there is an error of the machine at the first op that would read it; of words that are left alone it is none.
func TestWrongRegisters(t *testing.T) {
	every(func(what string, r call, n int) {
		x, want := should(t, r, n)
		_, right := ready(t, n, enough(), far)
		for i := range right {
			for s := range n {
				did := reads(want.Ops[ahead(n):], right[i].R[s])
				e := api.ErrArg
				if did == r.ops(n) {
					e = api.OK
				}
				for _, register := range []int{-1, far, math.MaxInt, math.MinInt} {
					wrong := fmt.Sprint(what, ", register ", register, " as share ", s, " of word ", i)
					m, w := ready(t, n, enough(), far)
					w[i].R[s] = register
					got := r.do(m, w)
					is(t, wrong+": Err", m.Err(), e)
					stopped(t, wrong, r, m, got, x, want, did)
				}
			}
		}
	})
}

// TestBehindAnError: nothing is done, the error stays, and nothing is told.
func TestBehindAnError(t *testing.T) {
	fails := map[string]func(m *wire.Machine) api.Errno{
		"an argument":   func(m *wire.Machine) api.Errno { m.Const(9, 0); return api.ErrArg },
		"too many ops":  func(m *wire.Machine) api.Errno { m.Const(0, 1); m.Const(0, 1); return api.ErrSize },
		"too few masks": func(m *wire.Machine) api.Errno { m.Rand(-1); return api.ErrRandom },
	}
	every(func(what string, r call, n int) {
		for why, fail := range fails {
			behind := what + ", behind " + why
			masks := tape.New(someWords(6, 99))
			m, w := ready(t, n, masks, ahead(n)+1)
			e := fail(m)
			masks.Reserve(50)
			length := m.Len()
			are(t, behind, r.do(m, w), r.told(make([]uint64, len(r.opens)))...)
			is(t, behind+": Err", m.Err(), e)
			is(t, behind+": Len", m.Len(), length)
			is(t, behind+": drawn", masks.Used(), 0)
			are(t, behind+": blocks", m.Trace().Blocks)
		}
	})
}

// TestNobodysMachine: it makes nothing, nothing is told, and no call panics.
func TestNobodysMachine(t *testing.T) {
	for who, m := range map[string]*wire.Machine{"nobody's": nil, "not made": {}} {
		for _, r := range calls() {
			what := r.what + ", a machine that is " + who
			for _, a := range []api.Word{word(0, 1, 2), {}, word(-1, -1, -1), word(math.MinInt, math.MaxInt, 5)} {
				w := api.Planes{a, a, a, a, a, a, a, a}
				are(t, what, r.do(m, w), r.told(make([]uint64, len(r.opens)))...)
				is(t, what+": Len", m.Len(), 0)
				is(t, what+": Err", m.Err(), api.ErrArg)
			}
		}
	}
}

// TestInABlock: no block begins in another one, so that calls stop where a word is made fresh, and nothing is opened.
func TestInABlock(t *testing.T) {
	every(func(what string, r call, n int) {
		x, want := should(t, r, n)
		for block := api.Encode; block <= api.Times; block++ {
			inside := fmt.Sprint(what, ", in a block of kind ", block)
			masks := enough()
			m, w := ready(t, n, masks, far)
			m.Begin(block)
			got := r.do(m, w)
			is(t, inside+": drawn", masks.Used(), 0)
			if len(r.opens) == 0 {
				is(t, inside+": Err", m.Err(), api.OK)
				stopped(t, inside, r, m, got, x, want, 0)
				continue
			}
			is(t, inside+": Err", m.Err(), api.ErrArg)
			stopped(t, inside, r, m, got, x, want, want.Blocks[0].From-ahead(n))
		}
	})
}

// --- dry machines ---

// TestDryMachines: they count the same registers and masks, and draw nothing; all bits that are asked for are opened as 1, so that Yes is true.
func TestDryMachines(t *testing.T) {
	every(func(what string, r call, n int) {
		what += ", dry"
		masks := enough()
		m, w := ready(t, n, masks, ahead(n))
		dry := m.Dry()
		got := r.do(dry, w)
		are(t, what, got, r.told(slices.Repeat([]uint64{math.MaxUint64}, len(r.opens)))...)
		is(t, what+": Err", dry.Err(), api.OK)
		is(t, what+": Len", dry.Len(), ahead(n)+r.ops(n))
		is(t, what+": Draws", dry.Draws(), r.draws(n))
		is(t, what+": drawn", masks.Used(), 0)
		is(t, what+": the machine's Len", m.Len(), ahead(n))
	})
	m, w := ready(t, 2, enough(), far)
	is(t, "Open of a dry machine", guard.Open(m.Dry(), w[0]), math.MaxUint64)
	is(t, "Yes of a dry machine", guard.Yes(m.Dry(), w[0]), true)
}

// --- P24.1: Yes ---

// TestYes: bit 0 alone says it, whatever the other ones are.
func TestYes(t *testing.T) {
	for _, n := range shareCounts() {
		for seed := range uint64(5) {
			for _, x := range slices.Concat(farWords(), someWords(seed+3, 20)) {
				m := made(t, n, reserved(someWords(seed, 8)...), far)
				is(t, fmt.Sprintf("Yes of %#x, %d shares", x, n), guard.Yes(m, share.Encode(m, x)), x%2 == 1)
				are(t, fmt.Sprintf("Yes of %#x, %d shares: what is opened", x, n), openedOf(m), x%2)
			}
		}
		for i := range 64 {
			m := made(t, n, enough(), far)
			is(t, fmt.Sprint("Yes of bit ", i, " alone"), guard.Yes(m, share.Encode(m, 1<<i)), i == 0)
			is(t, fmt.Sprint("Yes of all bits but ", i), guard.Yes(m, share.Encode(m, ^(uint64(1)<<i))), i != 0)
		}
	}
}

// --- P24.2: Bytes ---

// TestNoWords: of no words nothing is told, and nothing is done.
func TestNoWords(t *testing.T) {
	for _, n := range shareCounts() {
		for _, l := range [][]api.Word{nil, {}} {
			for _, count := range append(outside(), 0, 1, 8, 9, 64) {
				masks := enough()
				m, _ := ready(t, n, masks, far)
				is(t, fmt.Sprint("bytes of no words, ", count), len(guard.Bytes(m, l, count)), 0)
				is(t, "Len", m.Len(), ahead(n))
				is(t, "Err", m.Err(), api.OK)
				is(t, "drawn", masks.Used(), 0)
			}
		}
	}
}

// TestBytesOfOneWord: each number of bytes of one word, and a word that stands there more than once.
func TestBytesOfOneWord(t *testing.T) {
	for _, n := range shareCounts() {
		for count := range 26 {
			m := made(t, n, enough(), far)
			a := share.Encode(m, 0x0807060504030201)
			one, three := byByte(0x0807060504030201), slices.Repeat(byByte(0x0807060504030201), 3)
			are(t, fmt.Sprint(count, " bytes of one"), guard.Bytes(m, []api.Word{a}, count), one[:min(count, 8)]...)
			are(t, fmt.Sprint(count, " bytes of one three times"), guard.Bytes(m, []api.Word{a, a, a}, count), three[:min(count, 24)]...)
		}
	}
}

// TestBytesOfManyWords: a long list, up to its end, behind it, and with a part of its last word.
func TestBytesOfManyWords(t *testing.T) {
	const many = 200
	x := someWords(31, many)
	var all []byte
	for _, one := range x {
		all = append(all, byByte(one)...)
	}
	for _, n := range shareCounts() {
		for _, count := range []int{1, 63, 64, 65, 800, 801, 8*many - 9, 8*many - 1, 8 * many, 8*many + 1, math.MaxInt} {
			m := made(t, n, reserved(someWords(2, 5*many)...), 20*many)
			var l []api.Word
			for _, one := range x {
				l = append(l, share.Encode(m, one))
			}
			there := min(count, len(all))
			got := guard.Bytes(m, l, count)
			is(t, fmt.Sprint(count, " bytes of ", many, " words"), bytes.Equal(got, all[:there]), true)
			is(t, fmt.Sprint(count, " bytes: opened"), len(trace.Opens(m.Trace())), (there+7)/8)
			is(t, "Err", m.Err(), api.OK)
		}
	}
}

// TestTheListStays: the words that are handed in stay as they are, those behind the list's length are not opened, and none of them is kept.
func TestTheListStays(t *testing.T) {
	m, w := ready(t, 2, enough(), far)
	l := w[:]
	before := slices.Clone(l)
	first := guard.Bytes(m, l[:2], 40)
	is(t, "bytes of two words", len(first), 16)
	is(t, "opened", len(trace.Opens(m.Trace())), 2)
	are(t, "the list", l, before...)
	guard.Planes(m, w, 9)
	are(t, "the planes", l, before...)
	l[0] = word(-1, -1, -1)
	are(t, "bytes of the word behind the first one", guard.Bytes(m, l[1:2], 8), first[8:]...)
	is(t, "Err", m.Err(), api.OK)
}

// TestNewMemory: what is told is shared with no other answer, and nothing lies behind its length.
func TestNewMemory(t *testing.T) {
	every(func(what string, r call, n int) {
		if r.what == "Open" || r.what == "Yes" {
			return
		}
		m, w := ready(t, n, reserved(someWords(6, 80)...), far)
		first := r.do(m, w)
		for i, b := range first[len(first):cap(first)] {
			is(t, fmt.Sprint(what, ": ", i, " behind its length"), b, 0)
		}
		want := slices.Clone(first)
		for i := range first {
			first[i]++
		}
		second := r.do(m, w)
		are(t, what+", behind another one that was changed", second, want...)
		for i := range second {
			second[i] = 0
		}
		for i := range first {
			is(t, fmt.Sprint(what, ": byte ", i, " of the first one"), first[i], want[i]+1)
		}
	})
}

// --- P24.2: Planes ---

// TestPlanesByBytes: planes that stand for bytes tell them, whatever other lanes stand for.
func TestPlanesByBytes(t *testing.T) {
	for _, n := range shareCounts() {
		for seed := range uint64(8) {
			var b []byte
			for _, x := range someWords(seed+40, 8) {
				b = append(b, byByte(x)...)
			}
			for _, count := range []int{1, 2, 3, 15, 16, 17, 33, 63, 64} {
				m := made(t, n, reserved(someWords(seed, 80)...), far)
				var p api.Planes
				for j := range p {
					x := uint64(0)
					for lane, one := range b {
						x |= uint64(one>>j&1) << lane
					}
					p[j] = share.Encode(m, x)
				}
				are(t, fmt.Sprint(count, " bytes of planes, ", n, " shares"), guard.Planes(m, p, count), b[:count]...)
			}
		}
	}
}

// TestEachBitOfPlanes: bit j of byte p is bit p of plane j, and no other one.
func TestEachBitOfPlanes(t *testing.T) {
	for j := range 8 {
		for lane := range 64 {
			m := made(t, 2, enough(), far)
			var x [8]uint64
			x[j] = 1 << lane
			got := guard.Planes(m, begun(m, x), 64)
			want := make([]byte, 64)
			want[lane] = 1 << j
			are(t, fmt.Sprint("lane ", lane, " of plane ", j), got, want...)
		}
	}
}

// --- P24.2: Draws ---

func TestDraws(t *testing.T) {
	is(t, "Draws of 2", guard.Draws(2), 1)
	is(t, "Draws of 3", guard.Draws(3), 3)
	for _, n := range append(outside(), 0, 1, 4, 5, 6, 64, -3, 256+2, 65536+3, 1<<32+2, 1<<32+3, math.MinInt+2, math.MinInt+3) {
		is(t, fmt.Sprint("Draws of ", n), guard.Draws(n), 0)
	}
}

// TestDrawsIsWhatOpenTakes: it is told ahead of what is drawn.
func TestDrawsIsWhatOpenTakes(t *testing.T) {
	for _, n := range shareCounts() {
		masks := enough()
		m, w := ready(t, n, masks, far)
		guard.Open(m, w[0])
		is(t, fmt.Sprint("drawn of ", n, " shares"), masks.Used(), guard.Draws(n))
	}
}

// --- P24.3 ---

// TestWhatIsOpened: what the words stand for, less the bits that are not asked for, whatever the masks are; and that alone.
func TestWhatIsOpened(t *testing.T) {
	every(func(what string, r call, n int) {
		for seed := range uint64(12) {
			x := someEight(seed + 90)
			for i := range x {
				if seed < 6 {
					x[i] = farWords()[(int(seed)+5*i)%12]
				}
			}
			masks := someWords(seed, 60)
			if seed%3 == 0 {
				masks = slices.Repeat([]uint64{farWords()[seed]}, 60)
			}
			m := made(t, n, reserved(masks...), far)
			var w api.Planes
			for i := range w {
				w[i] = share.Encode(m, x[i])
			}
			from := m.Len()
			are(t, what, r.do(m, w), r.told(r.stands(x))...)
			are(t, what+": what is opened", openedOf(m), r.stands(x)...)
			is(t, what+": Err", m.Err(), api.OK)
			domains(t, what, m.Trace().Ops[from:])
		}
	})
}

// domains holds that what is opened belongs to no share, and that of all else the masks alone do not.
func domains(t *testing.T, what string, ops []api.Op) {
	t.Helper()
	for i, o := range ops {
		nobodys := o.Kind == api.Open || o.Kind == api.Rand
		is(t, fmt.Sprint(what, ": op ", i, " belongs to no share"), o.Dom == -1, nobodys)
	}
}

// TestOtherBitsAreGone: where all bits are 1, no register of a call but masks, and what they are put to, has one that is not asked for.
func TestOtherBitsAreGone(t *testing.T) {
	every(func(what string, r call, n int) {
		// All masks are 0, so that bits that are left are seen wherever they come to.
		m := made(t, n, reserved(make([]uint64, 40)...), far)
		var w api.Planes
		for j := range w {
			w[j] = word(-1, -1, -1)
			for s := range n {
				w[j].R[s] = m.Const(s, math.MaxUint64)
			}
		}
		from := m.Len()
		r.do(m, w)
		each := 1
		if len(r.opens) > 0 {
			each = r.ops(n) / len(r.opens)
		}
		for i, x := range m.Values()[from:] {
			o := r.opens[i/each]
			is(t, fmt.Sprint(what, ": op ", i, " has other bits"), !o.bare && x&^o.low != 0, false)
		}
	})
}

// spread is two bits of a number at both ends of a word, so that words of two bits alone are gone through.
func spread(x int) uint64 { return uint64(x&1) | uint64(x>>1&1)<<63 }

// TestOpenedShares: over all masks, any shares but one that are opened are each row of words as often as any other one, whatever the word's shares were.
func TestOpenedShares(t *testing.T) {
	for x := range 16 {
		count := map[uint64]int{}
		for r := range 4 {
			m, a := pair(t, reserved(spread(r)), spread(x), spread(x>>2))
			guard.Open(m, a)
			count[m.Values()[openOf(m).B]]++
		}
		is(t, fmt.Sprint("two shares, ", x, ": rows"), len(count), 4)
	}
	for x := range 64 {
		for left := range 3 {
			count := map[[2]uint64]int{}
			for r := range 64 {
				m, a := triple(t, reserved(spread(r), spread(r>>2), spread(r>>4)), spread(x), spread(x>>2), spread(x>>4))
				guard.Open(m, a)
				o, v := openOf(m), m.Values()
				shares := []uint64{v[o.A], v[o.B], v[o.D]}
				count[[2]uint64(slices.Delete(shares, left, left+1))]++
			}
			is(t, fmt.Sprint("three shares, ", x, ", without share ", left, ": rows"), len(count), 16)
			for row, often := range count {
				is(t, fmt.Sprint("three shares, ", x, ", without share ", left, ": row ", row), often, 4)
			}
		}
	}
}

// openOf is a machine's last op, which must be an open op.
func openOf(m *wire.Machine) api.Op {
	ops := m.Trace().Ops
	o := ops[len(ops)-1]
	if o.Kind != api.Open {
		panic("the last op is not open")
	}
	return o
}

// TestTheSameOps: which ops are done does not hang on masks, nor on words.
func TestTheSameOps(t *testing.T) {
	every(func(what string, r call, n int) {
		var first api.Trace
		for i, x := range farWords() {
			m := made(t, n, reserved(someWords(x, 60)...), far)
			var w api.Planes
			for k := range w {
				w[k] = share.Encode(m, x+uint64(k))
			}
			r.do(m, w)
			if i == 0 {
				first = m.Trace()
			}
			is(t, fmt.Sprintf("%s, %#x", what, x), trace.Same(first, m.Trace()), true)
		}
	})
}

// TestMachinesBesideEachOther: what is done on one is not seen on another one.
func TestMachinesBesideEachOther(t *testing.T) {
	of2, of3 := made(t, 2, enough(), far), made(t, 3, enough(), far)
	a, b := share.Encode(of2, 100), share.Encode(of3, 201)
	is(t, "two shares: Open", guard.Open(of2, a), 100)
	is(t, "three shares: Yes", guard.Yes(of3, b), true)
	is(t, "two shares: Yes", guard.Yes(of2, a), false)
	is(t, "three shares: Open", guard.Open(of3, b), 201)
	is(t, "two shares: Len", of2.Len(), 2+4+6)
	is(t, "three shares: Len", of3.Len(), 3+13+10)
	is(t, "two shares: Draws", of2.Draws(), 1+1+1)
	is(t, "three shares: Draws", of3.Draws(), 2+3+3)
}

// TestExample: the chapter's example, of each number of shares.
func TestExample(t *testing.T) {
	for _, n := range shareCounts() {
		m := made(t, n, enough(), far)
		are(t, fmt.Sprint("Bytes, ", n, " shares"), guard.Bytes(m, []api.Word{share.Public(m, 258)}, 2), 2, 1)
	}
}
