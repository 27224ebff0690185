package octet_test

import (
	"bytes"
	"math"
	"math/big"
	"math/bits"
	"math/rand/v2"
	"testing"

	"visor/octet"
)

// source is the same in each run, so that a failure comes back.
func source() *rand.Rand { return rand.New(rand.NewPCG(1, 2)) }

func someBytes(r *rand.Rand, n int) []byte {
	b := make([]byte, n)
	for i := range b {
		b[i] = byte(r.Uint32())
	}
	return b
}

// filled is n bytes, all alike.
func filled(x byte, n int) []byte { return bytes.Repeat([]byte{x}, n) }

// words are the edges, and some others.
func words() []uint64 {
	l := []uint64{0, 1, 2, 255, 256, 1 << 63, 1<<63 - 1, math.MaxUint64, 0x0102030405060708, 0x8000000000000001}
	r := source()
	for range 50 {
		l = append(l, r.Uint64())
	}
	return l
}

// numbers are those about 0, 8 and 64, and the greatest and the least ones.
func numbers() []int {
	l := []int{math.MinInt, math.MinInt + 1, math.MinInt + 7, math.MinInt / 2, -1000, math.MaxInt / 2, math.MaxInt - 7, math.MaxInt - 1, math.MaxInt}
	for n := -130; n <= 130; n++ {
		l = append(l, n)
	}
	return l
}

// lists are of each length up to 40: all 0, all 255, and others.
func lists() [][]byte {
	l := [][]byte{nil}
	r := source()
	for n := range 41 {
		l = append(l, filled(0, n), filled(255, n), someBytes(r, n), someBytes(r, n))
		if n > 0 {
			l = append(l, append(someBytes(r, n-1), 255), append(someBytes(r, n-1), 0))
		}
	}
	return l
}

// counted is n modulo 2^(8 size), with the first byte highest.
func counted(n *big.Int, size int) []byte {
	top := new(big.Int).Lsh(big.NewInt(1), uint(8*size))
	return new(big.Int).Mod(n, top).FillBytes(make([]byte, size))
}

// --- P1.1 ---

func TestLoadTellsBytesLowestFirst(t *testing.T) {
	b := []byte{1, 2, 3, 4, 5, 6, 7, 8, 9}
	for _, c := range []struct {
		at   int
		want uint64
	}{
		{0, 0x0807060504030201},
		{1, 0x0908070605040302},
		{2, 0x0009080706050403},
		{8, 9},
		{9, 0},
		{-1, 0x0706050403020100},
		{-7, 0x0100000000000000},
		{-8, 0},
		{-9, 0},
		{math.MinInt, 0},
		{math.MaxInt, 0},
		{math.MaxInt - 3, 0},
	} {
		if got := octet.Load(b, c.at); got != c.want {
			t.Errorf("Load at %d: %#x, not %#x", c.at, got, c.want)
		}
	}
}

// loadModel looks at each byte there is, and asks which of the word's it is: the other way round than Load.
func loadModel(b []byte, at int) uint64 {
	x := new(big.Int)
	for p, v := range b {
		i := new(big.Int).Sub(big.NewInt(int64(p)), big.NewInt(int64(at)))
		if i.Sign() >= 0 && i.Cmp(big.NewInt(8)) < 0 {
			x.Add(x, new(big.Int).Lsh(big.NewInt(int64(v)), uint(8*i.Int64())))
		}
	}
	return x.Uint64()
}

func TestLoadAtAllPlaces(t *testing.T) {
	for _, b := range lists() {
		for _, at := range numbers() {
			if got, want := octet.Load(b, at), loadModel(b, at); got != want {
				t.Fatalf("Load of %v at %d: %#x, not %#x", b, at, got, want)
			}
		}
	}
}

func TestLoadLeavesWhatLiesBehindTheLength(t *testing.T) {
	b := filled(255, 16)
	if got := octet.Load(b[:3], 0); got != 0xffffff {
		t.Errorf("Load of 3 bytes: %#x", got)
	}
	if got := octet.Load(b[:0], 0); got != 0 {
		t.Errorf("Load of no bytes: %#x", got)
	}
}

func TestStoreTellsLowestBytesInOrder(t *testing.T) {
	const x = 0x0807060504030201
	all := []byte{1, 2, 3, 4, 5, 6, 7, 8}
	for _, n := range numbers() {
		want := all[:min(max(n, 0), 8)]
		got := octet.Store(x, n)
		if !bytes.Equal(got, want) {
			t.Errorf("Store of %d: %v, not %v", n, got, want)
		}
		if cap(got) != len(got) {
			t.Errorf("Store of %d hands out what lies behind", n)
		}
	}
}

func TestRot(t *testing.T) {
	for _, c := range []struct {
		x    uint64
		k    int
		want uint64
	}{
		{1, 0, 1},
		{1, 1, 2},
		{1, 63, 1 << 63},
		{1, 64, 1},
		{1, 65, 2},
		{1 << 63, 1, 1},
		{1, -1, 1 << 63},
		{1, -63, 2},
		{1, -64, 1},
		{1, -65, 1 << 63},
		{1, math.MaxInt, 1 << 63},
		{1, math.MinInt, 1},
		{0x0123456789abcdef, 4, 0x123456789abcdef0},
		{0x0123456789abcdef, -4, 0xf0123456789abcde},
	} {
		if got := octet.Rot(c.x, c.k); got != c.want {
			t.Errorf("Rot of %#x by %d: %#x, not %#x", c.x, c.k, got, c.want)
		}
	}
}

func TestRotMovesEachBit(t *testing.T) {
	for _, k := range numbers() {
		by := ((k % 64) + 64) % 64
		for _, x := range words() {
			got := octet.Rot(x, k)
			for i := range 64 {
				if got>>((i+by)%64)&1 != x>>i&1 {
					t.Fatalf("Rot of %#x by %d: %#x", x, k, got)
				}
			}
		}
	}
}

func TestLow(t *testing.T) {
	for _, n := range numbers() {
		want := min(max(n, 0), 64)
		got := octet.Low(n)
		if bits.OnesCount64(got) != want || bits.Len64(got) != want {
			t.Errorf("Low of %d: %#x", n, got)
		}
	}
}

// --- P1.2 ---

func TestXor(t *testing.T) {
	for _, c := range []struct{ a, b, want []byte }{
		{nil, nil, nil},
		{nil, []byte{1}, nil},
		{[]byte{1}, []byte{}, nil},
		{[]byte{12}, []byte{10}, []byte{6}},
		{[]byte{1, 2, 4}, []byte{255, 2}, []byte{254, 0}},
		{[]byte{255, 2}, []byte{1, 2, 4}, []byte{254, 0}},
	} {
		if got := octet.Xor(c.a, c.b); !bytes.Equal(got, c.want) {
			t.Errorf("Xor of %v and %v: %v, not %v", c.a, c.b, got, c.want)
		}
	}
}

func TestXorIsAsLongAsTheShorterOne(t *testing.T) {
	r := source()
	for n := range 40 {
		for m := range 40 {
			a, b := someBytes(r, n), someBytes(r, m)
			got := octet.Xor(a, b)
			if len(got) != min(n, m) {
				t.Fatalf("Xor of %d and %d bytes has %d", n, m, len(got))
			}
			for i, x := range got {
				if x != a[i]^b[i] {
					t.Fatalf("Xor of %v and %v: %v", a, b, got)
				}
			}
		}
	}
}

func TestInc(t *testing.T) {
	for _, c := range []struct{ b, want []byte }{
		{nil, nil},
		{[]byte{}, nil},
		{[]byte{0}, []byte{1}},
		{[]byte{254}, []byte{255}},
		{[]byte{255}, []byte{0}},
		{[]byte{0, 255}, []byte{1, 0}},
		{[]byte{255, 0}, []byte{255, 1}},
		{[]byte{7, 255, 255, 255}, []byte{8, 0, 0, 0}},
		{[]byte{7, 255, 1, 255}, []byte{7, 255, 2, 0}},
		{filled(255, 16), filled(0, 16)},
	} {
		if got := octet.Inc(c.b); !bytes.Equal(got, c.want) {
			t.Errorf("Inc of %v: %v, not %v", c.b, got, c.want)
		}
	}
}

func TestIncIsOneMore(t *testing.T) {
	for _, b := range lists() {
		n := new(big.Int).SetBytes(b)
		want := counted(n.Add(n, big.NewInt(1)), len(b))
		if got := octet.Inc(b); !bytes.Equal(got, want) {
			t.Errorf("Inc of %v: %v, not %v", b, got, want)
		}
	}
}

// block is 16 bytes: first, last, and 0s between.
func block(first, last byte) []byte {
	b := make([]byte, 16)
	b[0], b[15] = first, last
	return b
}

func TestDouble(t *testing.T) {
	carried := filled(255, 16)
	carried[15] = 254 ^ 135
	for _, c := range []struct{ b, want []byte }{
		{block(0, 0), block(0, 0)},
		{block(0, 1), block(0, 2)},
		{block(64, 0), block(128, 0)},
		{block(128, 0), block(0, 135)},
		{block(129, 1), block(2, 133)},
		{filled(255, 16), carried},
		{filled(128, 16), append(filled(1, 15), 135)},
	} {
		if got := octet.Double(c.b); !bytes.Equal(got, c.want) {
			t.Errorf("Double of %v: %v, not %v", c.b, got, c.want)
		}
	}
}

func TestDoubleIsTwice(t *testing.T) {
	r := source()
	for range 500 {
		b := someBytes(r, 16)
		n := new(big.Int).SetBytes(b)
		carry := n.Bit(127)
		want := counted(n.Lsh(n, 1), 16)
		want[15] ^= 135 * byte(carry)
		if got := octet.Double(b); !bytes.Equal(got, want) {
			t.Fatalf("Double of %v: %v, not %v", b, got, want)
		}
	}
}

func TestDoubleOfOtherLengthsIsNone(t *testing.T) {
	for _, b := range lists() {
		if got := octet.Double(b); len(b) != 16 && len(got) != 0 {
			t.Errorf("Double of %d bytes: %v", len(b), got)
		}
	}
}

func TestSame(t *testing.T) {
	for _, c := range []struct {
		a, b []byte
		want bool
	}{
		{nil, nil, true},
		{nil, []byte{}, true},
		{nil, []byte{0}, false},
		{[]byte{0}, nil, false},
		{[]byte{0}, []byte{0, 0}, false},
		{[]byte{1, 2}, []byte{1}, false},
		{[]byte{1, 2}, []byte{1, 2}, true},
		{[]byte{1, 2}, []byte{2, 1}, false},
		{[]byte{1, 1}, []byte{2, 2}, false},
		{[]byte{0, 0}, []byte{1, 1}, false},
	} {
		if got := octet.Same(c.a, c.b); got != c.want {
			t.Errorf("Same of %v and %v: %v", c.a, c.b, got)
		}
	}
}

func TestSameSeesEachBit(t *testing.T) {
	for _, b := range lists() {
		if !octet.Same(b, bytes.Clone(b)) {
			t.Fatalf("%v is not like itself", b)
		}
		for i := range 8 * len(b) {
			other := bytes.Clone(b)
			other[i/8] ^= 1 << (i % 8)
			if octet.Same(b, other) || octet.Same(other, b) {
				t.Fatalf("%v is like %v", b, other)
			}
		}
	}
}

func TestWhatIsGivenIsNotChanged(t *testing.T) {
	for _, b := range lists() {
		// What lies behind the length is looked at, too.
		whole := append(bytes.Clone(b), 255, 254, 253)
		given, was := whole[:len(b)], bytes.Clone(whole)
		octet.Load(given, 0)
		octet.Xor(given, filled(255, 50))
		octet.Xor(filled(255, 50), given)
		octet.Inc(given)
		octet.Double(given)
		octet.Same(given, filled(255, len(b)))
		if !bytes.Equal(whole, was) {
			t.Fatalf("%v became %v", was, whole)
		}
	}
}

func TestWhatIsToldIsNewMemory(t *testing.T) {
	for _, b := range lists() {
		was, other := bytes.Clone(b), filled(0, len(b))
		for _, got := range [][]byte{octet.Xor(b, other), octet.Xor(other, b), octet.Inc(b), octet.Double(b)} {
			for i := range got {
				got[i]++
			}
			if !bytes.Equal(b, was) || !bytes.Equal(other, filled(0, len(b))) {
				t.Fatalf("what is told of %v shares its memory", was)
			}
		}
	}
	first, second := octet.Store(7, 8), octet.Store(7, 8)
	first[0] = 9
	if second[0] != 7 {
		t.Error("what is stored shares memory")
	}
}

// --- P1.3 ---

func TestWhatIsStoredIsLoaded(t *testing.T) {
	for _, x := range words() {
		for _, n := range numbers() {
			if got, want := octet.Load(octet.Store(x, n), 0), x&octet.Low(8*min(max(n, 0), 8)); got != want {
				t.Fatalf("%#x, stored in %d bytes, is loaded as %#x", x, n, got)
			}
		}
	}
	for _, b := range lists() {
		if n := min(len(b), 8); !bytes.Equal(octet.Store(octet.Load(b, 0), n), b[:n]) {
			t.Fatalf("%v is not stored as it was loaded", b)
		}
	}
}

func TestAWordComesBackBehind64(t *testing.T) {
	for _, x := range words() {
		y := x
		for k := range 64 {
			if y != octet.Rot(x, k) {
				t.Fatalf("%#x, rotated %d times by 1, is %#x", x, k, y)
			}
			y = octet.Rot(y, 1)
		}
		if y != x {
			t.Fatalf("%#x comes back as %#x", x, y)
		}
	}
}

func TestOfAllIncrementsNothingIsLeft(t *testing.T) {
	for n := range 3 {
		all := 1 << (8 * n)
		for _, begin := range [][]byte{filled(0, n), filled(255, n), filled(170, n)} {
			seen := map[string]int{}
			b := begin
			for range all {
				b = octet.Inc(b)
				seen[string(b)]++
			}
			if !bytes.Equal(b, begin) || len(seen) != all {
				t.Errorf("%v, incremented, is %v, and %d of %d were met", begin, b, len(seen), all)
			}
		}
	}
}

func TestDoubleIsLinear(t *testing.T) {
	r := source()
	for range 500 {
		a, b := someBytes(r, 16), someBytes(r, 16)
		both := octet.Double(octet.Xor(a, b))
		if !octet.Same(both, octet.Xor(octet.Double(a), octet.Double(b))) {
			t.Fatalf("Double of %v and %v, put together: %v", a, b, both)
		}
	}
}
