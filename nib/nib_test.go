package nib_test

import (
	"math"
	"testing"

	"visor/nib"
)

// low is the element that a byte is: its lowest four bits.
func low(a byte) byte { return a % 16 }

// product is told by long multiplication and long division of polynomials: another way than Mul's.
func product(a, b byte) byte {
	a, b = low(a), low(b)
	wide := 0
	for i := range 4 {
		if b>>i&1 == 1 {
			wide ^= int(a) << i
		}
	}
	for i := 6; i >= 4; i-- {
		if wide>>i&1 == 1 {
			wide ^= 19 << (i - 4)
		}
	}
	return byte(wide)
}

// power multiplies n times, one by one.
func power(a byte, n int) byte {
	p := byte(1)
	for range n {
		p = product(p, a)
	}
	return p
}

// halves are all elements of which the square and they themselves have the sum a, rising.
func halves(a byte) []byte {
	var l []byte
	for z := range byte(16) {
		if product(z, z)^z == low(a) {
			l = append(l, z)
		}
	}
	return l
}

// --- P4.1 ---

func TestMul(t *testing.T) {
	for _, c := range []struct{ a, b, want byte }{
		{0, 0, 0}, {0, 15, 0}, {15, 0, 0}, {1, 15, 15}, {15, 1, 15}, {2, 4, 8}, {8, 2, 3}, {2, 8, 3}, {4, 4, 3}, {8, 4, 6}, {8, 8, 12}, {2, 9, 1}, {3, 14, 1}, {15, 15, 10},
	} {
		if got := nib.Mul(c.a, c.b); got != c.want {
			t.Errorf("Mul of %d and %d: %d, not %d", c.a, c.b, got, c.want)
		}
	}
}

func TestMulOfAllPairs(t *testing.T) {
	for a := range 256 {
		for b := range 256 {
			if got, want := nib.Mul(byte(a), byte(b)), product(byte(a), byte(b)); got != want {
				t.Fatalf("Mul of %d and %d: %d, not %d", a, b, got, want)
			}
		}
	}
}

func TestSquare(t *testing.T) {
	for _, c := range []struct{ a, want byte }{{0, 0}, {1, 1}, {2, 4}, {3, 5}, {4, 3}, {6, 7}, {8, 12}, {15, 10}, {16, 0}, {18, 4}, {255, 10}} {
		if got := nib.Square(c.a); got != c.want {
			t.Errorf("Square of %d: %d, not %d", c.a, got, c.want)
		}
	}
}

func TestSquareOfAllBytes(t *testing.T) {
	for a := range 256 {
		if got, want := nib.Square(byte(a)), product(byte(a), byte(a)); got != want {
			t.Errorf("Square of %d: %d, not %d", a, got, want)
		}
	}
}

func TestPowOfAllBytes(t *testing.T) {
	for a := range 256 {
		want := byte(1)
		for n := range 100 {
			if got := nib.Pow(byte(a), n); got != want {
				t.Fatalf("Pow of %d and %d: %d, not %d", a, n, got, want)
			}
			want = product(want, byte(a))
		}
	}
}

func TestPowOfGreatNumbers(t *testing.T) {
	for a := range 256 {
		for _, n := range []int{1 << 31, 1<<32 - 1, 1 << 32, 1<<32 + 1, 1<<62 + 12345, math.MaxInt - 1, math.MaxInt} {
			// But for 0, each element comes round behind 15 factors.
			want := power(byte(a), n%15)
			if low(byte(a)) == 0 {
				want = 0
			}
			if got := nib.Pow(byte(a), n); got != want {
				t.Fatalf("Pow of %d and %d: %d, not %d", a, n, got, want)
			}
		}
	}
}

func TestPowOf0And1(t *testing.T) {
	for a := range 256 {
		if got := nib.Pow(byte(a), 0); got != 1 {
			t.Errorf("Pow of %d and 0: %d", a, got)
		}
		if got := nib.Pow(byte(a), 1); got != low(byte(a)) {
			t.Errorf("Pow of %d and 1: %d", a, got)
		}
	}
}

func TestPowBelow0Is0(t *testing.T) {
	for a := range 256 {
		for _, n := range []int{-1, -2, -14, -15, -16, -1 << 32, math.MinInt + 1, math.MinInt} {
			if got := nib.Pow(byte(a), n); got != 0 {
				t.Errorf("Pow of %d and %d: %d", a, n, got)
			}
		}
	}
}

func TestInv(t *testing.T) {
	for _, c := range []struct{ a, want byte }{{0, 0}, {1, 1}, {2, 9}, {3, 14}, {9, 2}, {14, 3}, {15, 8}, {16, 0}, {240, 0}, {17, 1}, {255, 8}} {
		if got := nib.Inv(c.a); got != c.want {
			t.Errorf("Inv of %d: %d, not %d", c.a, got, c.want)
		}
	}
}

func TestInvOfAllBytes(t *testing.T) {
	for a := range 256 {
		got := nib.Inv(byte(a))
		if low(byte(a)) == 0 {
			if got != 0 {
				t.Errorf("Inv of %d: %d", a, got)
			}
		} else if got > 15 || product(got, byte(a)) != 1 {
			t.Errorf("Inv of %d: %d", a, got)
		}
	}
}

// --- P4.2 ---

func TestMark(t *testing.T) {
	for _, c := range []struct{ a, want byte }{{0, 0}, {1, 0}, {2, 0}, {4, 0}, {7, 0}, {8, 1}, {15, 1}, {16, 0}, {24, 1}, {247, 0}, {248, 1}} {
		if got := nib.Mark(c.a); got != c.want {
			t.Errorf("Mark of %d: %d, not %d", c.a, got, c.want)
		}
	}
}

func TestMarkOfAllBytes(t *testing.T) {
	for a := range 256 {
		x := byte(a)
		want := power(x, 1) ^ power(x, 2) ^ power(x, 4) ^ power(x, 8)
		if got := nib.Mark(x); got != want || got > 1 {
			t.Errorf("Mark of %d: %d, not %d", a, got, want)
		}
	}
}

func TestApart(t *testing.T) {
	for _, c := range []struct {
		a    byte
		want bool
	}{{0, false}, {1, false}, {7, false}, {8, true}, {9, true}, {15, true}, {16, false}, {24, true}, {255, true}} {
		if got := nib.Apart(c.a); got != c.want {
			t.Errorf("Apart of %d: %v", c.a, got)
		}
	}
}

func TestApartOfAllBytes(t *testing.T) {
	for a := range 256 {
		// The sum of three is 0 just if two of them have the third as their sum.
		if got, want := nib.Apart(byte(a)), len(halves(byte(a))) == 0; got != want {
			t.Errorf("Apart of %d: %v", a, got)
		}
	}
}

func TestHalf(t *testing.T) {
	for _, c := range []struct {
		a, want byte
		ok      bool
	}{{0, 0, true}, {1, 6, true}, {2, 10, true}, {3, 12, true}, {4, 8, true}, {5, 14, true}, {6, 2, true}, {7, 4, true}, {8, 0, false}, {15, 0, false}, {16, 0, true}, {17, 6, true}, {24, 0, false}, {255, 0, false}} {
		if got, ok := nib.Half(c.a); got != c.want || ok != c.ok {
			t.Errorf("Half of %d: %d, %v; not %d, %v", c.a, got, ok, c.want, c.ok)
		}
	}
}

func TestHalfIsTheLeast(t *testing.T) {
	for a := range 256 {
		got, ok := nib.Half(byte(a))
		l := halves(byte(a))
		switch {
		case len(l) == 0 && (got != 0 || ok):
			t.Errorf("Half of %d: %d, %v, but there is none", a, got, ok)
		case len(l) > 0 && (got != l[0] || !ok):
			t.Errorf("Half of %d: %d, %v; not %d", a, got, ok, l[0])
		}
	}
}

// --- P4.3 ---

func TestSquaresAndMarksSpreadOverSums(t *testing.T) {
	for a := range 256 {
		for b := range 256 {
			x, y := byte(a), byte(b)
			if nib.Square(x^y) != nib.Square(x)^nib.Square(y) {
				t.Fatalf("the square of the sum of %d and %d", a, b)
			}
			if nib.Mark(x^y) != nib.Mark(x)^nib.Mark(y) {
				t.Fatalf("the mark of the sum of %d and %d", a, b)
			}
		}
	}
}

func TestInverseIsThePower14(t *testing.T) {
	for a := range 256 {
		if got, want := nib.Inv(byte(a)), nib.Pow(byte(a), 14); got != want {
			t.Errorf("Inv of %d: %d, not %d", a, got, want)
		}
	}
}

func TestApartJustIfTheMarkIs1(t *testing.T) {
	for a := range 256 {
		if nib.Apart(byte(a)) != (nib.Mark(byte(a)) == 1) {
			t.Errorf("%d: apart %v, mark %d", a, nib.Apart(byte(a)), nib.Mark(byte(a)))
		}
	}
}

func TestProductsSpreadOverSums(t *testing.T) {
	for a := range byte(16) {
		for b := range byte(16) {
			if nib.Mul(a, b) != nib.Mul(b, a) {
				t.Fatalf("%d times %d is another one the other way round", a, b)
			}
			for c := range byte(16) {
				if nib.Mul(c, a^b) != nib.Mul(c, a)^nib.Mul(c, b) {
					t.Fatalf("%d times the sum of %d and %d", c, a, b)
				}
			}
		}
	}
}
