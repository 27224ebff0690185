package mat_test

import (
	"math"
	"math/rand/v2"
	"slices"
	"testing"

	"visor/api"
	"visor/mat"
)

// bit is bit j of a byte.
func bit(x byte, j int) int { return int(x) / (1 << j) % 2 }

// turned counts, bit by bit, the bits that a row and x have both: another way than Apply's.
func turned(m api.Mat, x byte) byte {
	var y byte
	for i := range 8 {
		both := 0
		for j := range 8 {
			both += bit(m[i], j) * bit(x, j)
		}
		if both%2 == 1 {
			y += 1 << i
		}
	}
	return y
}

// all is what each byte is turned into.
func all(m api.Mat) [256]byte {
	var l [256]byte
	for x := range l {
		l[x] = turned(m, byte(x))
	}
	return l
}

// identity has each byte as itself.
func identity() [256]byte {
	var l [256]byte
	for x := range l {
		l[x] = byte(x)
	}
	return l
}

// images is how many bytes are told.
func images(m api.Mat) int {
	var seen [256]bool
	n := 0
	for _, y := range all(m) {
		if !seen[y] {
			seen[y] = true
			n++
		}
	}
	return n
}

// log is the number of which 2 to its power is n; -1, if there is none.
func log(n int) int {
	for k := range 9 {
		if 1<<k == n {
			return k
		}
	}
	return -1
}

// samples are matrices of each rank: some with few bits, all rows alike or moved, and some by chance from a fixed seed.
func samples() []api.Mat {
	one := api.Mat{1, 2, 4, 8, 16, 32, 64, 128}
	l := []api.Mat{
		{}, one,
		{128, 64, 32, 16, 8, 4, 2, 1},
		{2, 4, 8, 16, 32, 64, 128, 1},
		{0, 1, 2, 4, 8, 16, 32, 64},
		{255, 255, 255, 255, 255, 255, 255, 255},
		{241, 227, 199, 143, 31, 62, 124, 248},
		{164, 73, 146, 37, 74, 148, 41, 82},
		{1, 3, 7, 15, 31, 63, 127, 255},
		{255, 127, 63, 31, 15, 7, 3, 1},
		{0, 0, 0, 0, 0, 0, 0, 128},
		{1, 0, 0, 0, 0, 0, 0, 0},
		{0, 0, 0, 0, 0, 0, 0, 1},
		{170, 85, 170, 85, 170, 85, 170, 85},
	}
	for i := range 8 {
		for j := range 8 {
			m := one
			m[i] ^= 1 << j
			l = append(l, m)
			var single api.Mat
			single[i] = 1 << j
			l = append(l, single)
		}
	}
	s := rand.New(rand.NewPCG(5, 5))
	for range 300 {
		var m api.Mat
		for i := range m {
			m[i] = byte(s.Uint32())
		}
		l = append(l, m)
	}
	// Rows that are sums of few others, so that each rank comes often.
	for k := range 8 {
		for range 40 {
			var few [8]byte
			for i := range k {
				few[i] = byte(s.Uint32())
			}
			var m api.Mat
			for i := range m {
				which := byte(s.Uint32())
				for j := range 8 {
					if bit(which, j) == 1 {
						m[i] ^= few[j]
					}
				}
			}
			l = append(l, m)
		}
	}
	return l
}

// --- P5.1 ---

func TestApply(t *testing.T) {
	for _, c := range []struct {
		m       api.Mat
		x, want byte
	}{
		{api.Mat{}, 255, 0},
		{api.Mat{1, 2, 4, 8, 16, 32, 64, 128}, 0, 0},
		{api.Mat{1, 2, 4, 8, 16, 32, 64, 128}, 178, 178},
		{api.Mat{128, 64, 32, 16, 8, 4, 2, 1}, 1, 128},
		{api.Mat{128, 64, 32, 16, 8, 4, 2, 1}, 130, 65},
		{api.Mat{3}, 1, 1},
		{api.Mat{3}, 2, 1},
		{api.Mat{3}, 3, 0},
		{api.Mat{0, 7}, 7, 2},
		{api.Mat{0, 0, 0, 0, 0, 0, 0, 128}, 128, 128},
		{api.Mat{0, 0, 0, 0, 0, 0, 0, 128}, 127, 0},
		{api.Mat{255, 255, 255, 255, 255, 255, 255, 255}, 254, 255},
		{api.Mat{255, 255, 255, 255, 255, 255, 255, 255}, 255, 0},
		{api.Mat{241, 227, 199, 143, 31, 62, 124, 248}, 1, 31},
	} {
		if got := mat.Apply(c.m, c.x); got != c.want {
			t.Errorf("Apply of %v and %d: %d, not %d", c.m, c.x, got, c.want)
		}
	}
}

func TestApplyToAllBytes(t *testing.T) {
	for _, m := range samples() {
		for x, want := range all(m) {
			if got := mat.Apply(m, byte(x)); got != want {
				t.Fatalf("Apply of %v and %d: %d, not %d", m, x, got, want)
			}
		}
	}
}

func TestMul(t *testing.T) {
	up := api.Mat{0, 1, 2, 4, 8, 16, 32, 64}           // turns 1 into 2
	flip := api.Mat{128, 64, 32, 16, 8, 4, 2, 1}       // turns 1 into 128
	upThenFlip := api.Mat{64, 32, 16, 8, 4, 2, 1}      // turns 1 into 2, and that into 64
	flipThenUp := api.Mat{0, 128, 64, 32, 16, 8, 4, 2} // turns 1 into 128, and that into 0
	for _, c := range []struct{ a, b, want api.Mat }{
		{flip, up, upThenFlip},
		{up, flip, flipThenUp},
		{flip, flip, api.Mat{1, 2, 4, 8, 16, 32, 64, 128}},
		{up, up, api.Mat{0, 0, 1, 2, 4, 8, 16, 32}},
		{up, api.Mat{}, api.Mat{}},
		{api.Mat{}, up, api.Mat{}},
	} {
		if got := mat.Mul(c.a, c.b); got != c.want {
			t.Errorf("Mul of %v and %v: %v, not %v", c.a, c.b, got, c.want)
		}
	}
}

func TestMulTurnsAsTheSecondAndThenTheFirst(t *testing.T) {
	l := samples()
	for i, a := range l {
		for _, b := range []api.Mat{l[(i*7+3)%len(l)], l[(i*31+11)%len(l)], a} {
			first, second, got := all(b), all(a), all(mat.Mul(a, b))
			for x := range 256 {
				if got[x] != second[first[x]] {
					t.Fatalf("Mul of %v and %v turns %d into %d, not %d", a, b, x, got[x], second[first[x]])
				}
			}
		}
	}
}

func TestOneTurnsEachByteIntoItself(t *testing.T) {
	if all(mat.One()) != identity() {
		t.Errorf("One: %v", mat.One())
	}
}

func TestFlip(t *testing.T) {
	for _, c := range []struct{ m, want api.Mat }{
		{api.Mat{}, api.Mat{}},
		{api.Mat{255}, api.Mat{1, 1, 1, 1, 1, 1, 1, 1}},
		{api.Mat{0, 0, 0, 0, 0, 0, 0, 1}, api.Mat{128}},
		{api.Mat{128}, api.Mat{0, 0, 0, 0, 0, 0, 0, 1}},
		{api.Mat{0, 1, 2, 4, 8, 16, 32, 64}, api.Mat{2, 4, 8, 16, 32, 64, 128, 0}},
	} {
		if got := mat.Flip(c.m); got != c.want {
			t.Errorf("Flip of %v: %v, not %v", c.m, got, c.want)
		}
	}
}

func TestFlipHasRowsAsColumns(t *testing.T) {
	for _, m := range samples() {
		f := mat.Flip(m)
		for i := range 8 {
			for j := range 8 {
				if bit(f[j], i) != bit(m[i], j) {
					t.Fatalf("Flip of %v: row %d, column %d", m, j, i)
				}
			}
		}
	}
}

func TestColumns(t *testing.T) {
	for _, m := range samples() {
		c := [8]byte(m)
		got := mat.Columns(c)
		for j := range 8 {
			if turned(got, 1<<j) != c[j] {
				t.Fatalf("Columns of %v turns %d into %d", c, 1<<j, turned(got, 1<<j))
			}
		}
	}
}

// --- P5.2 ---

func TestRank(t *testing.T) {
	for _, c := range []struct {
		m    api.Mat
		want int
	}{
		{mat.One(), 8},
		{api.Mat{}, 0},
		{api.Mat{0, 0, 0, 0, 0, 0, 0, 128}, 1},
		{api.Mat{255, 255, 255, 255, 255, 255, 255, 255}, 1},
		{api.Mat{170, 85, 170, 85, 170, 85, 170, 85}, 2},
		{api.Mat{1, 2, 3}, 2},
		{api.Mat{0, 1, 2, 4, 8, 16, 32, 64}, 7},
		{api.Mat{2, 4, 8, 16, 32, 64, 128, 1}, 8},
	} {
		if got := mat.Rank(c.m); got != c.want {
			t.Errorf("Rank of %v: %d, not %d", c.m, got, c.want)
		}
	}
}

func TestRankByHowManyBytesAreTold(t *testing.T) {
	var met [9]int
	for _, m := range samples() {
		want := log(images(m))
		met[want]++
		if got := mat.Rank(m); got != want {
			t.Fatalf("Rank of %v: %d, not %d", m, got, want)
		}
	}
	for rank, n := range met {
		if n == 0 {
			t.Errorf("no sample has rank %d", rank)
		}
	}
}

func TestInv(t *testing.T) {
	for _, c := range []struct {
		m, want api.Mat
		ok      bool
	}{
		{mat.One(), mat.One(), true},
		{api.Mat{2, 4, 8, 16, 32, 64, 128, 1}, api.Mat{128, 1, 2, 4, 8, 16, 32, 64}, true},
		{api.Mat{1, 3, 7, 15, 31, 63, 127, 255}, api.Mat{1, 3, 6, 12, 24, 48, 96, 192}, true},
		{api.Mat{241, 227, 199, 143, 31, 62, 124, 248}, api.Mat{164, 73, 146, 37, 74, 148, 41, 82}, true},
		{api.Mat{}, api.Mat{}, false},
		{api.Mat{0, 1, 2, 4, 8, 16, 32, 64}, api.Mat{}, false},
		{api.Mat{1, 2, 4, 8, 16, 32, 64, 127}, api.Mat{}, false},
		{api.Mat{1, 1, 1, 1, 1, 1, 1, 1}, api.Mat{}, false},
	} {
		if got, ok := mat.Inv(c.m); got != c.want || ok != c.ok {
			t.Errorf("Inv of %v: %v, %v; not %v, %v", c.m, got, ok, c.want, c.ok)
		}
	}
}

func TestInvOfSamples(t *testing.T) {
	with := 0
	for _, m := range samples() {
		got, ok := mat.Inv(m)
		if images(m) < 256 {
			if ok || got != (api.Mat{}) {
				t.Fatalf("Inv of %v: %v, %v, but there is none", m, got, ok)
			}
			continue
		}
		with++
		if !ok || mat.Mul(m, got) != mat.One() || mat.Mul(got, m) != mat.One() {
			t.Fatalf("Inv of %v: %v, %v", m, got, ok)
		}
		there, back := all(m), all(got)
		for x := range 256 {
			if back[there[x]] != byte(x) {
				t.Fatalf("Inv of %v turns %d into %d, not %d", m, there[x], back[there[x]], x)
			}
		}
	}
	if with < 50 {
		t.Errorf("only %d samples have an inverse", with)
	}
}

func TestPow(t *testing.T) {
	for _, m := range samples() {
		want := mat.One()
		for n := range 40 {
			if got := mat.Pow(m, n); got != want {
				t.Fatalf("Pow of %v and %d: %v, not %v", m, n, got, want)
			}
			want = mat.Mul(want, m)
		}
	}
}

func TestPowOfGreatNumbers(t *testing.T) {
	round := api.Mat{2, 4, 8, 16, 32, 64, 128, 1}
	for _, n := range []int{1 << 31, 1<<32 - 1, 1 << 32, 1<<32 + 1, 1<<62 + 12345, math.MaxInt - 1, math.MaxInt} {
		if got, want := mat.Pow(round, n), mat.Pow(round, n%8); got != want {
			t.Errorf("Pow of %v and %d: %v, not %v", round, n, got, want)
		}
		if got := mat.Pow(api.Mat{0, 1, 2, 4, 8, 16, 32, 64}, n); got != (api.Mat{}) {
			t.Errorf("Pow and %d: %v", n, got)
		}
	}
}

func TestPowOf0And1(t *testing.T) {
	for _, m := range samples() {
		if got := mat.Pow(m, 0); got != mat.One() {
			t.Errorf("Pow of %v and 0: %v", m, got)
		}
		if got := mat.Pow(m, 1); got != m {
			t.Errorf("Pow of %v and 1: %v", m, got)
		}
	}
}

func TestPowBelow0Is0(t *testing.T) {
	for _, m := range samples() {
		for _, n := range []int{-1, -2, -8, -1 << 32, math.MinInt + 1, math.MinInt} {
			if got := mat.Pow(m, n); got != (api.Mat{}) {
				t.Errorf("Pow of %v and %d: %v", m, n, got)
			}
		}
	}
}

func TestKernel(t *testing.T) {
	every := identity()
	for _, c := range []struct {
		m    api.Mat
		want []byte
	}{
		{mat.One(), []byte{0}},
		{api.Mat{}, every[:]},
		{api.Mat{0, 1, 2, 4, 8, 16, 32, 64}, []byte{0, 128}},
		{api.Mat{2, 4, 8, 16, 32, 64, 128}, []byte{0, 1}},
		{api.Mat{3, 4, 8, 16, 32, 64, 128}, []byte{0, 3}},
		{api.Mat{0, 0, 4, 8, 16, 32, 64, 128}, []byte{0, 1, 2, 3}},
	} {
		if got := mat.Kernel(c.m); !slices.Equal(got, c.want) {
			t.Errorf("Kernel of %v: %v, not %v", c.m, got, c.want)
		}
	}
}

func TestKernelOfSamples(t *testing.T) {
	for _, m := range samples() {
		var want []byte
		for x, y := range all(m) {
			if y == 0 {
				want = append(want, byte(x))
			}
		}
		if got := mat.Kernel(m); !slices.Equal(got, want) {
			t.Fatalf("Kernel of %v: %v, not %v", m, got, want)
		}
	}
}

func TestKernelIsNewMemory(t *testing.T) {
	first := mat.Kernel(api.Mat{})
	first[0] = 9
	if second := mat.Kernel(api.Mat{}); second[0] != 0 {
		t.Errorf("a kernel that was written to is told again: %d", second[0])
	}
}

// --- P5.3 ---

func TestSumsIntoSums(t *testing.T) {
	for _, m := range samples()[:200] {
		for a := range 256 {
			for _, b := range []byte{1, 2, 83, 128, 255} {
				if mat.Apply(m, byte(a)^b) != mat.Apply(m, byte(a))^mat.Apply(m, b) {
					t.Fatalf("%v: the sum of %d and %d", m, a, b)
				}
			}
		}
	}
}

func TestInverseJustIfTheRankIs8(t *testing.T) {
	for _, m := range samples() {
		if _, ok := mat.Inv(m); ok != (mat.Rank(m) == 8) {
			t.Errorf("%v: inverse %v, rank %d", m, ok, mat.Rank(m))
		}
	}
}

func TestHowManyAreToldAndTurnedInto0(t *testing.T) {
	for _, m := range samples() {
		rank := mat.Rank(m)
		if got := images(m); got != 1<<rank {
			t.Errorf("%v: %d bytes are told, and the rank is %d", m, got, rank)
		}
		if got := len(mat.Kernel(m)); got != 1<<(8-rank) {
			t.Errorf("%v: %d bytes are turned into 0, and the rank is %d", m, got, rank)
		}
	}
}
