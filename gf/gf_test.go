package gf_test

import (
	"math"
	"math/big"
	"testing"

	"visor/gf"
)

// product is told by long multiplication and long division of polynomials: another way than Mul's.
func product(a, b byte) byte {
	wide := 0
	for i := range 8 {
		if b>>i&1 == 1 {
			wide ^= int(a) << i
		}
	}
	for i := 14; i >= 8; i-- {
		if wide>>i&1 == 1 {
			wide ^= 283 << (i - 8)
		}
	}
	return byte(wide)
}

// power multiplies n times, one by one.
func power(a byte, n int) byte {
	p := byte(1)
	for range n {
		p = product(p, a)
	}
	return p
}

// numbers are those about 0 and 255, and the greatest and the least ones.
func numbers() []int {
	l := []int{math.MinInt, math.MinInt + 1, math.MinInt / 2, -1 << 32, 1 << 32, 1<<32 + 1, math.MaxInt / 2, math.MaxInt - 254, math.MaxInt - 1, math.MaxInt}
	for n := -520; n <= 520; n++ {
		l = append(l, n)
	}
	return l
}

// rest is n modulo m, from 0 on.
func rest(n, m int) int {
	return int(new(big.Int).Mod(big.NewInt(int64(n)), big.NewInt(int64(m))).Int64())
}

// --- P3.1 ---

func TestTwice(t *testing.T) {
	for _, c := range []struct{ a, want byte }{
		{0, 0}, {1, 2}, {2, 4}, {64, 128}, {127, 254}, {128, 27}, {129, 25}, {255, 229}, {0x57, 0xae}, {0xae, 0x47},
	} {
		if got := gf.Twice(c.a); got != c.want {
			t.Errorf("Twice of %d: %d, not %d", c.a, got, c.want)
		}
	}
}

func TestTwiceIsTheProductWith2(t *testing.T) {
	for a := range 256 {
		if got, want := gf.Twice(byte(a)), product(byte(a), 2); got != want {
			t.Errorf("Twice of %d: %d, not %d", a, got, want)
		}
	}
}

func TestMul(t *testing.T) {
	for _, c := range []struct{ a, b, want byte }{
		{0, 0, 0}, {0, 255, 0}, {255, 0, 0}, {1, 255, 255}, {255, 1, 255}, {2, 128, 27}, {0x57, 0x83, 0xc1}, {0x57, 0x13, 0xfe}, {0x53, 0xca, 1}, {255, 255, 19},
	} {
		if got := gf.Mul(c.a, c.b); got != c.want {
			t.Errorf("Mul of %d and %d: %d, not %d", c.a, c.b, got, c.want)
		}
	}
}

func TestMulOfAllPairs(t *testing.T) {
	for a := range 256 {
		for b := range 256 {
			if got, want := gf.Mul(byte(a), byte(b)), product(byte(a), byte(b)); got != want {
				t.Fatalf("Mul of %d and %d: %d, not %d", a, b, got, want)
			}
		}
	}
}

func TestPowOfAllElements(t *testing.T) {
	for a := range 256 {
		want := byte(1)
		for n := range 600 {
			if got := gf.Pow(byte(a), n); got != want {
				t.Fatalf("Pow of %d and %d: %d, not %d", a, n, got, want)
			}
			want = product(want, byte(a))
		}
	}
}

func TestPowOfGreatNumbers(t *testing.T) {
	for a := range 256 {
		for _, n := range []int{1 << 31, 1<<32 - 1, 1 << 32, 1<<32 + 1, 1<<62 + 12345, math.MaxInt - 1, math.MaxInt} {
			// But for 0, each element comes round behind 255 factors.
			want := power(byte(a), n%255)
			if a == 0 {
				want = 0
			}
			if got := gf.Pow(byte(a), n); got != want {
				t.Fatalf("Pow of %d and %d: %d, not %d", a, n, got, want)
			}
		}
	}
}

func TestPowOf0And1(t *testing.T) {
	for a := range 256 {
		if got := gf.Pow(byte(a), 0); got != 1 {
			t.Errorf("Pow of %d and 0: %d", a, got)
		}
		if got := gf.Pow(byte(a), 1); got != byte(a) {
			t.Errorf("Pow of %d and 1: %d", a, got)
		}
	}
}

func TestPowBelow0Is0(t *testing.T) {
	for a := range 256 {
		for _, n := range []int{-1, -2, -254, -255, -256, -1 << 32, math.MinInt + 1, math.MinInt} {
			if got := gf.Pow(byte(a), n); got != 0 {
				t.Errorf("Pow of %d and %d: %d", a, n, got)
			}
		}
	}
}

// --- P3.2 ---

func TestInv(t *testing.T) {
	for _, c := range []struct{ a, want byte }{{0, 0}, {1, 1}, {2, 141}, {3, 246}, {0x53, 0xca}, {255, 28}} {
		if got := gf.Inv(c.a); got != c.want {
			t.Errorf("Inv of %d: %d, not %d", c.a, got, c.want)
		}
	}
}

func TestInvOfAllElements(t *testing.T) {
	if got := gf.Inv(0); got != 0 {
		t.Errorf("Inv of 0: %d", got)
	}
	for a := 1; a < 256; a++ {
		if got := gf.Inv(byte(a)); product(got, byte(a)) != 1 {
			t.Errorf("Inv of %d: %d", a, got)
		}
	}
}

func TestOrder(t *testing.T) {
	for _, c := range []struct {
		a    byte
		want int
	}{{0, 0}, {1, 1}, {2, 51}, {3, 255}, {0xbc, 3}, {0xbd, 3}} {
		if got := gf.Order(c.a); got != c.want {
			t.Errorf("Order of %d: %d, not %d", c.a, got, c.want)
		}
	}
}

func TestOrderIsTheLeast(t *testing.T) {
	for a := 1; a < 256; a++ {
		n, p := 1, byte(a)
		for p != 1 {
			n, p = n+1, product(p, byte(a))
		}
		if got := gf.Order(byte(a)); got != n {
			t.Errorf("Order of %d: %d, not %d", a, got, n)
		}
	}
}

func TestExp(t *testing.T) {
	for _, c := range []struct {
		n    int
		want byte
	}{{0, 1}, {1, 3}, {2, 5}, {3, 15}, {4, 17}, {25, 2}, {254, 246}, {255, 1}, {256, 3}, {-1, 246}, {-254, 3}, {-255, 1}, {-256, 246}} {
		if got := gf.Exp(c.n); got != c.want {
			t.Errorf("Exp of %d: %d, not %d", c.n, got, c.want)
		}
	}
}

func TestExpOfAllNumbers(t *testing.T) {
	for _, n := range numbers() {
		if got, want := gf.Exp(n), power(3, rest(n, 255)); got != want {
			t.Errorf("Exp of %d: %d, not %d", n, got, want)
		}
	}
}

func TestLog(t *testing.T) {
	if n, ok := gf.Log(0); n != 0 || ok {
		t.Errorf("Log of 0: %d, %v", n, ok)
	}
	p := byte(1)
	for want := range 255 {
		if n, ok := gf.Log(p); n != want || !ok {
			t.Errorf("Log of %d: %d, %v; not %d", p, n, ok, want)
		}
		p = product(p, 3)
	}
}

func TestSqrt(t *testing.T) {
	for _, c := range []struct{ a, want byte }{{0, 0}, {1, 1}, {4, 2}, {5, 3}, {27, 16}} {
		if got := gf.Sqrt(c.a); got != c.want {
			t.Errorf("Sqrt of %d: %d, not %d", c.a, got, c.want)
		}
	}
	for a := range 256 {
		if got := gf.Sqrt(byte(a)); product(got, got) != byte(a) {
			t.Errorf("Sqrt of %d: %d", a, got)
		}
		if got := gf.Sqrt(product(byte(a), byte(a))); got != byte(a) {
			t.Errorf("Sqrt of the square of %d: %d", a, got)
		}
	}
}

// --- P3.3 ---

func TestProductsAreAlikeInAnyOrder(t *testing.T) {
	for a := range 256 {
		for b := range 256 {
			x, y := byte(a), byte(b)
			if gf.Mul(x, y) != gf.Mul(y, x) {
				t.Fatalf("%d times %d is another one the other way round", a, b)
			}
			for c := 0; c < 256; c += 17 {
				z := byte(c)
				if gf.Mul(gf.Mul(x, y), z) != gf.Mul(x, gf.Mul(y, z)) {
					t.Fatalf("%d, %d and %d have two products", a, b, c)
				}
			}
		}
	}
}

func TestProductsSpreadOverSums(t *testing.T) {
	for a := range 256 {
		for b := range 256 {
			for c := 1; c < 256; c += 13 {
				x, y, z := byte(a), byte(b), byte(c)
				if gf.Mul(z, x^y) != gf.Mul(z, x)^gf.Mul(z, y) {
					t.Fatalf("%d times the sum of %d and %d", c, a, b)
				}
			}
		}
	}
}

func TestOrdersDivide255(t *testing.T) {
	for a := 1; a < 256; a++ {
		n := gf.Order(byte(a))
		if n < 1 || 255%n != 0 || gf.Pow(byte(a), n) != 1 {
			t.Errorf("Order of %d: %d", a, n)
		}
	}
}

func TestInverseIsThePower254(t *testing.T) {
	for a := 1; a < 256; a++ {
		if got, want := gf.Inv(byte(a)), gf.Pow(byte(a), 254); got != want {
			t.Errorf("Inv of %d: %d, not %d", a, got, want)
		}
	}
}

func TestEachButZeroIsAPowerOf3(t *testing.T) {
	seen := map[int]int{}
	for a := 1; a < 256; a++ {
		n, ok := gf.Log(byte(a))
		if !ok || n < 0 || n > 254 || gf.Exp(n) != byte(a) {
			t.Errorf("Log of %d: %d, %v", a, n, ok)
		}
		seen[n]++
	}
	if len(seen) != 255 {
		t.Errorf("%d numbers are told", len(seen))
	}
}
