package keccak_test

import (
	"crypto/sha3"
	"encoding/binary"
	"math"
	"math/bits"
	"sync"
	"testing"

	"visor/keccak"
)

// state is a state, as all calls take and tell it.
type state = [25]uint64

// rate is how many bytes of a state the library's SHAKE128 fills ahead of permuting it.
const rate = 168

// scattered is a state, such as a rule of numbers scatters.
func scattered(seed uint64) state {
	var out state
	for at := range out {
		for range 2 {
			seed = seed*6364136223846793005 + 1442695040888963407
			out[at] = out[at]<<32 | seed>>32
		}
	}
	return out
}

// single is the state of which one bit is 1.
func single(at, z int) state {
	var out state
	out[at] = 1 << z
	return out
}

// full is the state of which each bit is 1.
func full() state {
	var out state
	for at := range out {
		out[at] = math.MaxUint64
	}
	return out
}

// some is states of several kinds: of no bits, of all, of a few, and scattered ones.
func some() []state {
	out := []state{{}, full()}
	for at := range 25 {
		out = append(out, single(at, (at*13+5)%64))
	}
	for seed := range uint64(40) {
		out = append(out, scattered(seed))
	}
	return out
}

// singles is each state of which one bit is 1.
func singles() []state {
	var out []state
	for at := range 25 {
		for z := range 64 {
			out = append(out, single(at, z))
		}
	}
	return out
}

// sum is two states, put together.
func sum(a, b state) state {
	for at := range a {
		a[at] ^= b[at]
	}
	return a
}

// cube is a state's bits, by x, y, and the bit of the word: as the standard writes them.
type cube [5][5][64]byte

// cubeOf is a state's bits.
func cubeOf(a state) cube {
	var out cube
	for x := range 5 {
		for y := range 5 {
			for z := range 64 {
				out[x][y][z] = byte(a[x+5*y] >> z & 1)
			}
		}
	}
	return out
}

// stateOf is the state that has these bits.
func stateOf(c cube) state {
	var out state
	for x := range 5 {
		for y := range 5 {
			for z := range 64 {
				out[x+5*y] |= uint64(c[x][y][z]) << z
			}
		}
	}
	return out
}

// slowTheta is Theta, bit by bit, as the standard writes it (FIPS 202, 3.2.1).
func slowTheta(a state) state {
	c := cubeOf(a)
	var column, mixed [5][64]byte
	for x := range 5 {
		for z := range 64 {
			column[x][z] = c[x][0][z] ^ c[x][1][z] ^ c[x][2][z] ^ c[x][3][z] ^ c[x][4][z]
		}
	}
	for x := range 5 {
		for z := range 64 {
			mixed[x][z] = column[(x+4)%5][z] ^ column[(x+1)%5][(z+63)%64]
		}
	}
	for x := range 5 {
		for y := range 5 {
			for z := range 64 {
				c[x][y][z] ^= mixed[x][z]
			}
		}
	}
	return stateOf(c)
}

// slowMove is Rho and Pi, bit by bit, as the standard writes them (FIPS 202, 3.2.2 and 3.2.3).
func slowMove(a state) state {
	c := cubeOf(a)
	turned := c
	x, y := 1, 0
	for t := range 24 {
		for z := range 64 {
			from := ((z-(t+1)*(t+2)/2)%64 + 64) % 64
			turned[x][y][z] = c[x][y][from]
		}
		x, y = y, (2*x+3*y)%5
	}
	var out cube
	for x := range 5 {
		for y := range 5 {
			out[x][y] = turned[(x+3*y)%5][x]
		}
	}
	return stateOf(out)
}

// slowChi is Chi, bit by bit, as the standard writes it (FIPS 202, 3.2.4).
func slowChi(a state) state {
	c := cubeOf(a)
	out := c
	for x := range 5 {
		for y := range 5 {
			for z := range 64 {
				out[x][y][z] = c[x][y][z] ^ (c[(x+1)%5][y][z]^1)&c[(x+2)%5][y][z]
			}
		}
	}
	return stateOf(out)
}

// --- P13.1 ---

// printedMarks is the rounds' constants, as they are printed for Keccak.
func printedMarks() []uint64 {
	return []uint64{
		0x0000000000000001, 0x0000000000008082, 0x800000000000808A, 0x8000000080008000,
		0x000000000000808B, 0x0000000080000001, 0x8000000080008081, 0x8000000000008009,
		0x000000000000008A, 0x0000000000000088, 0x0000000080008009, 0x000000008000000A,
		0x000000008000808B, 0x800000000000008B, 0x8000000000008089, 0x8000000000008003,
		0x8000000000008002, 0x8000000000000080, 0x000000000000800A, 0x800000008000000A,
		0x8000000080008081, 0x8000000000008080, 0x0000000080000001, 0x8000000080008008,
	}
}

func TestMarksArePrintedOnes(t *testing.T) {
	for i, want := range printedMarks() {
		if got := keccak.Mark(i); got != want {
			t.Errorf("Mark(%d) is %#x, not %#x", i, got, want)
		}
	}
	if keccak.Mark(1) != 32898 {
		t.Errorf("Mark(1) is %d", keccak.Mark(1))
	}
}

// TestMarksAreOfTheRow: by the standard's register of nine bits (FIPS 202, algorithm 5).
func TestMarksAreOfTheRow(t *testing.T) {
	bit := func(t int) uint64 {
		r := []uint64{1, 0, 0, 0, 0, 0, 0, 0}
		for range t % 255 {
			r = append([]uint64{0}, r...)
			r[0] ^= r[8]
			r[4] ^= r[8]
			r[5] ^= r[8]
			r[6] ^= r[8]
			r = r[:8]
		}
		return r[0]
	}
	for i := range 24 {
		var want uint64
		for j := range 7 {
			want |= bit(j+7*i) << (1<<j - 1)
		}
		if got := keccak.Mark(i); got != want {
			t.Errorf("Mark(%d) is %#x, not %#x", i, got, want)
		}
	}
}

func TestOtherRoundsHaveNoMark(t *testing.T) {
	for _, i := range []int{-1, 24, 25, -2, -24, 48, 255, 256, 1 << 40, -1 << 40, math.MaxInt, math.MinInt, math.MinInt + 1} {
		if got := keccak.Mark(i); got != 0 {
			t.Errorf("Mark(%d) is %#x", i, got)
		}
	}
}

func TestTurnsArePrintedOnes(t *testing.T) {
	// By y, then x, from 0 on: the standard's table, modulo 64.
	printed := [5][5]int{
		{0, 1, 62, 28, 27},
		{36, 44, 6, 55, 20},
		{3, 10, 43, 25, 39},
		{41, 45, 15, 21, 8},
		{18, 2, 61, 56, 14},
	}
	for y, row := range printed {
		for x, want := range row {
			if got := keccak.Turn(x, y); got != want {
				t.Errorf("Turn(%d, %d) is %d, not %d", x, y, got, want)
			}
		}
	}
}

func TestOtherPlacesHaveNoTurn(t *testing.T) {
	others := []int{-1, 5, 6, -5, -4, 10, 1 << 40, math.MaxInt, math.MinInt, math.MinInt + 1, math.MaxInt - 1}
	for _, other := range others {
		for in := range 5 {
			if got := keccak.Turn(other, in); got != 0 {
				t.Errorf("Turn(%d, %d) is %d", other, in, got)
			}
			if got := keccak.Turn(in, other); got != 0 {
				t.Errorf("Turn(%d, %d) is %d", in, other, got)
			}
		}
		for _, second := range others {
			if got := keccak.Turn(other, second); got != 0 {
				t.Errorf("Turn(%d, %d) is %d", other, second, got)
			}
		}
	}
}

func TestThetaIsTheStandards(t *testing.T) {
	for i, a := range append(some(), singles()...) {
		if keccak.Theta(a) != slowTheta(a) {
			t.Fatalf("Theta of the state %d", i)
		}
	}
}

// TestThetaOfOneBit: a bit of a column comes to its own place, and to both columns beside it.
func TestThetaOfOneBit(t *testing.T) {
	want := single(7, 63)
	for y := range 5 {
		want[3+5*y] ^= 1 << 63
		want[1+5*y] ^= 1
	}
	if got := keccak.Theta(single(7, 63)); got != want {
		t.Errorf("Theta is %x, not %x", got, want)
	}
}

func TestMoveIsTheStandards(t *testing.T) {
	for i, a := range append(some(), singles()...) {
		if keccak.Move(a) != slowMove(a) {
			t.Fatalf("Move of the state %d", i)
		}
	}
}

func TestMoveGoesByTurns(t *testing.T) {
	a := scattered(5)
	got := keccak.Move(a)
	for x := range 5 {
		for y := range 5 {
			want := bits.RotateLeft64(a[x+5*y], keccak.Turn(x, y))
			if got[y+5*((2*x+3*y)%5)] != want {
				t.Errorf("the word of %d and %d", x, y)
			}
		}
	}
}

func TestChiIsTheStandards(t *testing.T) {
	for i, a := range append(some(), singles()...) {
		if keccak.Chi(a) != slowChi(a) {
			t.Fatalf("Chi of the state %d", i)
		}
	}
}

// rows is states that have each row of five bits at each y.
func rows() []state {
	var out []state
	for row := range 32 {
		var a state
		for y := range 5 {
			for z := range 64 {
				for x := range 5 {
					a[x+5*y] |= uint64((row+z+7*y)>>x&1) << z
				}
			}
		}
		out = append(out, a)
	}
	return out
}

func TestChiOfEachRow(t *testing.T) {
	for i, a := range rows() {
		if keccak.Chi(a) != slowChi(a) {
			t.Fatalf("Chi of the rows %d", i)
		}
	}
}

// --- P13.2 ---

// printedFirst is what the state of nothing is permuted into, as it is printed for Keccak.
func printedFirst() state {
	return state{
		0xF1258F7940E1DDE7, 0x84D5CCF933C0478A, 0xD598261EA65AA9EE, 0xBD1547306F80494D, 0x8B284E056253D057,
		0xFF97A42D7F8E6FD4, 0x90FEE5A0A44647C4, 0x8C5BDA0CD6192E76, 0xAD30A6F71B19059C, 0x30935AB7D08FFC64,
		0xEB5AA93F2317D635, 0xA9A6E6260D712103, 0x81A57C16DBCF555F, 0x43B831CD0347C826, 0x01F22F1A11A5569F,
		0x05E5635A21D9AE61, 0x64BEFEF28CC970F2, 0x613670957BC46611, 0xB87C5A554FD00ECB, 0x8C3EE88A1CCF32C8,
		0x940C7922AE3A2614, 0x1841F924A2C509E4, 0x16F53526E70465C2, 0x75F644E97F30A13B, 0xEAF1FF7B5CECA249,
	}
}

// printedSecond is what that is permuted into.
func printedSecond() state {
	return state{
		0x2D5C954DF96ECB3C, 0x6A332CD07057B56D, 0x093D8D1270D76B6C, 0x8A20D9B25569D094, 0x4F9C4F99E5E7F156,
		0xF957B9A2DA65FB38, 0x85773DAE1275AF0D, 0xFAF4F247C3D810F7, 0x1F1B9EE6F79A8759, 0xE4FECC0FEE98B425,
		0x68CE61B6B9CE68A1, 0xDEEA66C4BA8F974F, 0x33C43D836EAFB1F5, 0xE00654042719DBD9, 0x7CF8A9F009831265,
		0xFD5449A6BF174743, 0x97DDAD33D8994B40, 0x48EAD5FC5D0BE774, 0xE3B8C8EE55B7B03C, 0x91A0226E649E42E9,
		0x900E3129E7BADD7B, 0x202A9EC5FAA3CCE8, 0x5B3402464E1C3DB6, 0x609F4E62A44C1059, 0x20D06CD26A8FBF5C,
	}
}

func TestPermuteIsThePrintedOne(t *testing.T) {
	first := keccak.Permute(state{})
	if first != printedFirst() {
		t.Errorf("the state of nothing is permuted into %x", first)
	}
	if second := keccak.Permute(first); second != printedSecond() {
		t.Errorf("that is permuted into %x", second)
	}
	if keccak.Back(printedFirst()) != (state{}) || keccak.Back(printedSecond()) != printedFirst() {
		t.Error("the printed ones are not permuted back")
	}
}

// libraryPermute is what the library's SHAKE128, set to a state, has when a block of bytes 0 was written.
func libraryPermute(t *testing.T, a state) state {
	t.Helper()
	s := sha3.NewSHAKE128()
	kept, err := s.MarshalBinary()
	if err != nil {
		t.Fatal(err)
	}
	// Ahead of the state's bytes stand four letters and the rate; behind them, two numbers that tell how far it is.
	if len(kept) != 4+1+200+2 || kept[4] != rate {
		t.Skip("the library keeps a state in another form")
	}
	for at, word := range a {
		binary.LittleEndian.PutUint64(kept[5+8*at:], word)
	}
	if err := s.UnmarshalBinary(kept); err != nil {
		t.Fatal(err)
	}
	s.Write(make([]byte, rate))
	if kept, err = s.MarshalBinary(); err != nil {
		t.Fatal(err)
	}
	var out state
	for at := range out {
		out[at] = binary.LittleEndian.Uint64(kept[5+8*at:])
	}
	return out
}

func TestPermuteIsTheLibrarys(t *testing.T) {
	for i, a := range append(some(), singles()...) {
		want := libraryPermute(t, a)
		if keccak.Permute(a) != want {
			t.Fatalf("Permute of the state %d", i)
		}
		if keccak.Back(want) != a {
			t.Fatalf("Back of the state %d, permuted", i)
		}
	}
}

// TestPermuteMakesTheLibrarysHash: by what the library tells, whatever form it keeps a state in.
func TestPermuteMakesTheLibrarysHash(t *testing.T) {
	for seed := range uint64(50) {
		a := scattered(seed)
		m := make([]byte, 0, 128)
		for _, word := range a[:16] {
			m = binary.LittleEndian.AppendUint64(m, word)
		}
		for at := 16; at < 25; at++ {
			a[at] = 0
		}
		a[16] = 1<<63 | 6
		want := sha3.Sum256(m)
		for at, word := range keccak.Permute(a) {
			if at < 4 && word != binary.LittleEndian.Uint64(want[8*at:]) {
				t.Errorf("the word %d of the hash of %x", at, m)
			}
		}
	}
}

func TestPermuteIsItsRounds(t *testing.T) {
	for i, a := range some() {
		b := a
		for _, mark := range printedMarks() {
			b = slowChi(slowMove(slowTheta(b)))
			b[0] ^= mark
		}
		if keccak.Permute(a) != b {
			t.Fatalf("Permute of the state %d", i)
		}
	}
}

// step is a call, and the one that goes back.
type step struct {
	name        string
	there, back func(state) state
}

// steps is all calls that have one that goes back.
func steps() []step {
	return []step{
		{"Move", keccak.Move, keccak.BackMove},
		{"Chi", keccak.Chi, keccak.BackChi},
		{"Permute", keccak.Permute, keccak.Back},
	}
}

func TestThereAndBack(t *testing.T) {
	for _, s := range steps() {
		for i, a := range append(append(some(), rows()...), singles()...) {
			if s.back(s.there(a)) != a {
				t.Fatalf("%s of the state %d, and back", s.name, i)
			}
			if s.there(s.back(a)) != a {
				t.Fatalf("%s of the state %d, back ahead of it", s.name, i)
			}
		}
	}
}

func TestBackIsNotPermute(t *testing.T) {
	for _, s := range steps() {
		if a := scattered(8); s.there(a) == s.back(a) {
			t.Errorf("%s goes back as there", s.name)
		}
	}
}

// --- P13.3 ---

func TestThetaAndMoveKeepSums(t *testing.T) {
	for seed := range uint64(200) {
		a, b := scattered(seed), scattered(seed+1000)
		if keccak.Theta(sum(a, b)) != sum(keccak.Theta(a), keccak.Theta(b)) {
			t.Fatalf("Theta of the sum %d", seed)
		}
		if keccak.Move(sum(a, b)) != sum(keccak.Move(a), keccak.Move(b)) {
			t.Fatalf("Move of the sum %d", seed)
		}
		if keccak.BackMove(sum(a, b)) != sum(keccak.BackMove(a), keccak.BackMove(b)) {
			t.Fatalf("BackMove of the sum %d", seed)
		}
	}
	if keccak.Theta(state{}) != (state{}) || keccak.Move(state{}) != (state{}) {
		t.Error("of nothing, something is made")
	}
}

func TestNoTwoStatesArePermutedIntoOne(t *testing.T) {
	seen := map[state]state{}
	for _, a := range append(append(some(), rows()...), singles()...) {
		p := keccak.Permute(a)
		if b, found := seen[p]; found && b != a {
			t.Fatalf("%x and %x are permuted into one", a, b)
		}
		seen[p] = a
	}
}

// TestEachBitTurnsMany: states beside one another are permuted far apart.
func TestEachBitTurnsMany(t *testing.T) {
	a := scattered(3)
	p := keccak.Permute(a)
	for _, s := range singles() {
		apart := 0
		for _, word := range sum(keccak.Permute(sum(a, s)), p) {
			apart += bits.OnesCount64(word)
		}
		if apart < 600 || apart > 1000 {
			t.Fatalf("with another bit, %d bits are others", apart)
		}
	}
}

func TestThetaManyTimesIsNothing(t *testing.T) {
	for i, a := range some() {
		b := a
		for range 192 {
			b = keccak.Theta(b)
		}
		if b != a {
			t.Fatalf("Theta, 192 times, of the state %d", i)
		}
	}
	for i, a := range singles() {
		b := a
		for times := 1; times <= 192; times++ {
			b = keccak.Theta(b)
			// Ahead of the last time, a state of one bit is not what it was.
			if (b == a) != (times == 192) {
				t.Fatalf("Theta, %d times, of the bit %d", times, i)
			}
		}
	}
}

// --- What holds everywhere ---

func TestWhatIsGivenIsNotChanged(t *testing.T) {
	calls := []func(state) state{keccak.Theta, keccak.Move, keccak.Chi, keccak.BackMove, keccak.BackChi, keccak.Permute, keccak.Back}
	for i, call := range calls {
		a := scattered(uint64(i))
		first := call(a)
		if a != scattered(uint64(i)) {
			t.Errorf("the call %d changes what it is given", i)
		}
		if call(a) != first {
			t.Errorf("the call %d, asked again, tells something else", i)
		}
	}
}

func TestManyAskAtOnce(t *testing.T) {
	a := scattered(1)
	p := keccak.Permute(a)
	var all sync.WaitGroup
	for i := range 16 {
		all.Go(func() {
			for range 20 {
				if keccak.Permute(a) != p || keccak.Back(p) != a {
					t.Errorf("the asker %d is told something else", i)
				}
				if keccak.Mark(1) != 32898 || keccak.Turn(4, 4) != 14 {
					t.Errorf("the asker %d is told another number", i)
				}
			}
		})
	}
	all.Wait()
}
