package tower_test

import (
	"sync"
	"testing"

	"visor/api"
	"visor/gf"
	"visor/mat"
	"visor/nib"
	"visor/tower"
)

// small is the product of the field of 16, told by long multiplication and long division of polynomials.
func small(a, b byte) byte {
	wide := 0
	for i := range 4 {
		if b>>i&1 == 1 {
			wide ^= int(a) << i
		}
	}
	for i := 6; i >= 4; i-- {
		if wide>>i&1 == 1 {
			wide ^= 19 << (i - 4)
		}
	}
	return byte(wide)
}

// product multiplies both polynomials in z, and divides them by z^2 + z + 8: another way than Mul's.
func product(a, b byte) byte {
	x, y := [2]byte{a % 16, a / 16}, [2]byte{b % 16, b / 16}
	var wide [3]byte
	for i := range x {
		for j := range y {
			wide[i+j] ^= small(x[i], y[j])
		}
	}
	by := [3]byte{8, 1, 1}
	times := wide[2]
	for i := range wide {
		wide[i] ^= small(times, by[i])
	}
	return 16*wide[1] + wide[0]
}

// power multiplies n times, one by one.
func power(a byte, n int) byte {
	p := byte(1)
	for range n {
		p = product(p, a)
	}
	return p
}

// roots are all elements from 2 on of which the powers 8, 4, 3 and 1, and 1, have the sum 0, rising.
func roots() []byte {
	var l []byte
	for g := 2; g < 256; g++ {
		x := byte(g)
		if power(x, 8)^power(x, 4)^power(x, 3)^power(x, 1)^1 == 0 {
			l = append(l, x)
		}
	}
	return l
}

// turnedIn is the sum of the root's powers for the bits of x.
func turnedIn(x byte) byte {
	var sum byte
	g := roots()[0]
	for i := range 8 {
		if x>>i&1 == 1 {
			sum ^= power(g, i)
		}
	}
	return sum
}

// fields are some of which each must turn alike: New's, one that was asked before, and nobody's.
func fields() map[string]*tower.Field {
	asked := tower.New()
	asked.Out()
	return map[string]*tower.Field{"new": tower.New(), "asked": asked, "nobody's": nil}
}

// --- P6.1 ---

func TestMul(t *testing.T) {
	for _, c := range []struct{ a, b, want byte }{
		{0, 0, 0}, {0, 255, 0}, {255, 0, 0}, {1, 255, 255}, {255, 1, 255}, {2, 8, 3}, {8, 2, 3}, {15, 15, 10},
		{16, 1, 16}, {16, 15, 240}, {16, 16, 24}, {16, 17, 8}, {17, 16, 8}, {16, 32, 35}, {32, 16, 35},
		{128, 128, 202}, {240, 240, 175}, {255, 255, 165}, {18, 52, 19}, {171, 205, 126}, {200, 3, 123},
	} {
		if got := tower.Mul(c.a, c.b); got != c.want {
			t.Errorf("Mul of %d and %d: %d, not %d", c.a, c.b, got, c.want)
		}
	}
}

func TestMulOfAllPairs(t *testing.T) {
	for a := range 256 {
		for b := range 256 {
			if got, want := tower.Mul(byte(a), byte(b)), product(byte(a), byte(b)); got != want {
				t.Fatalf("Mul of %d and %d: %d, not %d", a, b, got, want)
			}
		}
	}
}

func TestMulOfLowPartsIsThatOfTheFieldOf16(t *testing.T) {
	for a := range byte(16) {
		for b := range byte(16) {
			if got, want := tower.Mul(a, b), nib.Mul(a, b); got != want {
				t.Errorf("Mul of %d and %d: %d, not %d", a, b, got, want)
			}
		}
	}
}

func TestNorm(t *testing.T) {
	for _, c := range []struct{ a, want byte }{
		{0, 0}, {1, 1}, {2, 4}, {15, 10}, {16, 8}, {17, 8}, {18, 14}, {32, 6}, {128, 10}, {171, 7}, {240, 15}, {255, 15},
	} {
		if got := tower.Norm(c.a); got != c.want {
			t.Errorf("Norm of %d: %d, not %d", c.a, got, c.want)
		}
	}
}

func TestNormOfAllElements(t *testing.T) {
	for x := range 256 {
		a, b := byte(x/16), byte(x%16)
		want := small(8, small(a, a)) ^ small(a, b) ^ small(b, b)
		if got := tower.Norm(byte(x)); got != want || got > 15 {
			t.Errorf("Norm of %d: %d, not %d", x, got, want)
		}
	}
}

func TestInv(t *testing.T) {
	for _, c := range []struct{ a, want byte }{
		{0, 0}, {1, 1}, {2, 9}, {9, 2}, {15, 8}, {16, 255}, {17, 240}, {32, 238}, {128, 170}, {171, 150}, {240, 17}, {255, 16},
	} {
		if got := tower.Inv(c.a); got != c.want {
			t.Errorf("Inv of %d: %d, not %d", c.a, got, c.want)
		}
	}
}

func TestInvOfAllElements(t *testing.T) {
	if got := tower.Inv(0); got != 0 {
		t.Errorf("Inv of 0: %d", got)
	}
	for a := 1; a < 256; a++ {
		if got := tower.Inv(byte(a)); product(got, byte(a)) != 1 {
			t.Errorf("Inv of %d: %d", a, got)
		}
	}
}

func TestRoot(t *testing.T) {
	for range 2 {
		if got := tower.Root(); got != 32 {
			t.Errorf("Root: %d, not 32", got)
		}
	}
	l := roots()
	if len(l) != 8 || tower.Root() != l[0] {
		t.Errorf("Root: %d, and the roots are %v", tower.Root(), l)
	}
}

// --- P6.2 ---

func TestInAndOut(t *testing.T) {
	in := api.Mat{161, 4, 252, 24, 112, 210, 172, 160}
	out := api.Mat{129, 176, 2, 194, 202, 84, 142, 212}
	for name, f := range fields() {
		for range 2 {
			if got := f.In(); got != in {
				t.Errorf("In of the field that is %s: %v, not %v", name, got, in)
			}
			if got := f.Out(); got != out {
				t.Errorf("Out of the field that is %s: %v, not %v", name, got, out)
			}
		}
	}
}

func TestInOrOutFirst(t *testing.T) {
	a, b := tower.New(), tower.New()
	in, out := a.In(), b.Out()
	if b.In() != in || a.Out() != out {
		t.Error("what is asked first changes what is told")
	}
}

func TestInOfAllElements(t *testing.T) {
	for name, f := range fields() {
		in, out := f.In(), f.Out()
		for x := range 256 {
			want := turnedIn(byte(x))
			if got := mat.Apply(in, byte(x)); got != want {
				t.Fatalf("the field that is %s turns %d in as %d, not %d", name, x, got, want)
			}
			if got := mat.Apply(out, want); got != byte(x) {
				t.Fatalf("the field that is %s turns %d out as %d, not %d", name, want, got, x)
			}
		}
	}
}

func TestInTurns2IntoTheRoot(t *testing.T) {
	in := tower.New().In()
	for i := range 8 {
		want := power(tower.Root(), i)
		if got := mat.Apply(in, 1<<i); got != want {
			t.Errorf("the power %d of x is turned into %d, not %d", i, got, want)
		}
	}
}

func TestOutIsTheOpposite(t *testing.T) {
	for name, f := range fields() {
		in, out := f.In(), f.Out()
		if mat.Mul(in, out) != mat.One() || mat.Mul(out, in) != mat.One() {
			t.Errorf("In and Out of the field that is %s undo one another in no order, or in one alone", name)
		}
	}
}

func TestToldMatricesAreNobodyElses(t *testing.T) {
	f := tower.New()
	in, out := f.In(), f.Out()
	keptIn, keptOut := in, out
	in[0], out[7] = in[0]^255, out[7]^255
	if f.In() != keptIn || f.Out() != keptOut {
		t.Error("a matrix that was written to is told again")
	}
}

func TestManyAskAtOnce(t *testing.T) {
	f, want := tower.New(), tower.New()
	var ins, outs [16]api.Mat
	var all sync.WaitGroup
	for i := range ins {
		all.Go(func() {
			if i%2 == 0 {
				ins[i], outs[i] = f.In(), f.Out()
			} else {
				outs[i], ins[i] = f.Out(), f.In()
			}
		})
	}
	all.Wait()
	for i := range ins {
		if ins[i] != want.In() || outs[i] != want.Out() {
			t.Errorf("asker %d: %v, %v", i, ins[i], outs[i])
		}
	}
}

// --- P6.3 ---

func TestTurnedInKeepsSumsAndProducts(t *testing.T) {
	in := tower.New().In()
	for a := range 256 {
		for b := range 256 {
			x, y := byte(a), byte(b)
			p, q := mat.Apply(in, x), mat.Apply(in, y)
			if mat.Apply(in, x^y) != p^q {
				t.Fatalf("the sum of %d and %d", a, b)
			}
			if mat.Apply(in, gf.Mul(x, y)) != tower.Mul(p, q) {
				t.Fatalf("the product of %d and %d", a, b)
			}
		}
	}
}

func TestTurnedInKeepsInverses(t *testing.T) {
	f := tower.New()
	for a := range 256 {
		x := byte(a)
		if got := mat.Apply(f.Out(), tower.Inv(mat.Apply(f.In(), x))); got != gf.Inv(x) {
			t.Errorf("the inverse of %d through the tower: %d, not %d", a, got, gf.Inv(x))
		}
	}
}

func TestInverseIsDividedByTheNorm(t *testing.T) {
	for x := 1; x < 256; x++ {
		a, b := byte(x/16), byte(x%16)
		d := nib.Inv(tower.Norm(byte(x)))
		if want := 16*small(a, d) + small(a^b, d); tower.Inv(byte(x)) != want {
			t.Errorf("Inv of %d: %d, not %d", x, tower.Inv(byte(x)), want)
		}
	}
}

func TestOnly0HasTheNorm0(t *testing.T) {
	for a := range 256 {
		if (tower.Norm(byte(a)) == 0) != (a == 0) {
			t.Errorf("Norm of %d: %d", a, tower.Norm(byte(a)))
		}
	}
}

func TestNormsKeepProducts(t *testing.T) {
	for a := range 256 {
		for b := range 256 {
			x, y := byte(a), byte(b)
			if tower.Norm(product(x, y)) != small(tower.Norm(x), tower.Norm(y)) {
				t.Fatalf("the norm of the product of %d and %d", a, b)
			}
		}
	}
}
