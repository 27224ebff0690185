package sbox_test

import (
	"sync"
	"testing"

	"visor/api"
	"visor/gf"
	"visor/mat"
	"visor/sbox"
	"visor/tower"
)

// bit is bit j of a byte.
func bit(x byte, j int) int { return int(x) / (1 << j) % 2 }

// bent puts a byte's bits together, column by column: another way than a matrix's.
func bent(x byte) byte {
	var y byte
	for i := range 8 {
		n := bit(x, i)
		for _, more := range []int{4, 5, 6, 7} {
			n += bit(x, (i+more)%8)
		}
		y += byte(n%2) << i
	}
	return y
}

// product is AES's field's, told by long multiplication and long division of polynomials.
func product(a, b byte) byte {
	wide := 0
	for i := range 8 {
		if bit(b, i) == 1 {
			wide ^= int(a) << i
		}
	}
	for i := 14; i >= 8; i-- {
		if wide>>i&1 == 1 {
			wide ^= 283 << (i - 8)
		}
	}
	return byte(wide)
}

// inverse is looked for among all elements.
func inverse(x byte) byte {
	for y := range 256 {
		if product(x, byte(y)) == 1 {
			return byte(y)
		}
	}
	return 0
}

// table is what each byte is substituted by, as the standard (FIPS 197) prints it.
func table() [256]byte {
	return [256]byte{
		0x63, 0x7c, 0x77, 0x7b, 0xf2, 0x6b, 0x6f, 0xc5, 0x30, 0x01, 0x67, 0x2b, 0xfe, 0xd7, 0xab, 0x76,
		0xca, 0x82, 0xc9, 0x7d, 0xfa, 0x59, 0x47, 0xf0, 0xad, 0xd4, 0xa2, 0xaf, 0x9c, 0xa4, 0x72, 0xc0,
		0xb7, 0xfd, 0x93, 0x26, 0x36, 0x3f, 0xf7, 0xcc, 0x34, 0xa5, 0xe5, 0xf1, 0x71, 0xd8, 0x31, 0x15,
		0x04, 0xc7, 0x23, 0xc3, 0x18, 0x96, 0x05, 0x9a, 0x07, 0x12, 0x80, 0xe2, 0xeb, 0x27, 0xb2, 0x75,
		0x09, 0x83, 0x2c, 0x1a, 0x1b, 0x6e, 0x5a, 0xa0, 0x52, 0x3b, 0xd6, 0xb3, 0x29, 0xe3, 0x2f, 0x84,
		0x53, 0xd1, 0x00, 0xed, 0x20, 0xfc, 0xb1, 0x5b, 0x6a, 0xcb, 0xbe, 0x39, 0x4a, 0x4c, 0x58, 0xcf,
		0xd0, 0xef, 0xaa, 0xfb, 0x43, 0x4d, 0x33, 0x85, 0x45, 0xf9, 0x02, 0x7f, 0x50, 0x3c, 0x9f, 0xa8,
		0x51, 0xa3, 0x40, 0x8f, 0x92, 0x9d, 0x38, 0xf5, 0xbc, 0xb6, 0xda, 0x21, 0x10, 0xff, 0xf3, 0xd2,
		0xcd, 0x0c, 0x13, 0xec, 0x5f, 0x97, 0x44, 0x17, 0xc4, 0xa7, 0x7e, 0x3d, 0x64, 0x5d, 0x19, 0x73,
		0x60, 0x81, 0x4f, 0xdc, 0x22, 0x2a, 0x90, 0x88, 0x46, 0xee, 0xb8, 0x14, 0xde, 0x5e, 0x0b, 0xdb,
		0xe0, 0x32, 0x3a, 0x0a, 0x49, 0x06, 0x24, 0x5c, 0xc2, 0xd3, 0xac, 0x62, 0x91, 0x95, 0xe4, 0x79,
		0xe7, 0xc8, 0x37, 0x6d, 0x8d, 0xd5, 0x4e, 0xa9, 0x6c, 0x56, 0xf4, 0xea, 0x65, 0x7a, 0xae, 0x08,
		0xba, 0x78, 0x25, 0x2e, 0x1c, 0xa6, 0xb4, 0xc6, 0xe8, 0xdd, 0x74, 0x1f, 0x4b, 0xbd, 0x8b, 0x8a,
		0x70, 0x3e, 0xb5, 0x66, 0x48, 0x03, 0xf6, 0x0e, 0x61, 0x35, 0x57, 0xb9, 0x86, 0xc1, 0x1d, 0x9e,
		0xe1, 0xf8, 0x98, 0x11, 0x69, 0xd9, 0x8e, 0x94, 0x9b, 0x1e, 0x87, 0xe9, 0xce, 0x55, 0x28, 0xdf,
		0x8c, 0xa1, 0x89, 0x0d, 0xbf, 0xe6, 0x42, 0x68, 0x41, 0x99, 0x2d, 0x0f, 0xb0, 0x54, 0xbb, 0x16,
	}
}

// boxes are some of which each must substitute alike: New's, one of which each call was asked before, and nobody's.
func boxes() map[string]*sbox.Box {
	asked := sbox.New()
	asked.Ways()
	asked.Back(99)
	asked.Sub(0)
	return map[string]*sbox.Box{"new": sbox.New(), "asked": asked, "nobody's": nil}
}

// --- P7.1 ---

func TestBend(t *testing.T) {
	if got, want := sbox.Bend(), (api.Mat{241, 227, 199, 143, 31, 62, 124, 248}); got != want {
		t.Errorf("Bend: %v, not %v", got, want)
	}
}

func TestBendHasTheColumnsThatAreTold(t *testing.T) {
	for i, row := range sbox.Bend() {
		for j := range 8 {
			// Column j is in row i, if it lies 0, 4, 5, 6 or 7 behind i.
			behind := (j - i + 8) % 8
			if got, want := bit(row, j) == 1, behind == 0 || behind >= 4; got != want {
				t.Errorf("row %d, column %d: %v", i, j, got)
			}
		}
	}
}

func TestBendTurnsAllBytes(t *testing.T) {
	bend := sbox.Bend()
	for x := range 256 {
		if got, want := mat.Apply(bend, byte(x)), bent(byte(x)); got != want {
			t.Errorf("the bend turns %d into %d, not %d", x, got, want)
		}
	}
}

func TestToldBendIsNobodyElses(t *testing.T) {
	first := sbox.Bend()
	kept := first
	first[0] ^= 255
	if sbox.Bend() != kept || sbox.New().Sub(83) != 237 {
		t.Error("a bend that was written to is told or taken again")
	}
}

func TestSub(t *testing.T) {
	for name, b := range boxes() {
		for _, c := range []struct{ x, want byte }{
			{0, 99}, {1, 124}, {2, 119}, {82, 0}, {83, 237}, {99, 251}, {127, 210}, {128, 205}, {141, 93}, {254, 187}, {255, 22},
		} {
			for range 2 {
				if got := b.Sub(c.x); got != c.want {
					t.Errorf("the box that is %s: Sub of %d: %d, not %d", name, c.x, got, c.want)
				}
			}
		}
	}
}

func TestBack(t *testing.T) {
	for name, b := range boxes() {
		for _, c := range []struct{ x, want byte }{
			{99, 0}, {124, 1}, {119, 2}, {0, 82}, {237, 83}, {251, 99}, {210, 127}, {205, 128}, {93, 141}, {187, 254}, {22, 255},
		} {
			for range 2 {
				if got := b.Back(c.x); got != c.want {
					t.Errorf("the box that is %s: Back of %d: %d, not %d", name, c.x, got, c.want)
				}
			}
		}
	}
}

func TestSubAndBackOfAllBytes(t *testing.T) {
	for name, b := range boxes() {
		for i, y := range table() {
			x := byte(i)
			if got := b.Sub(x); got != y {
				t.Fatalf("the box that is %s: Sub of %d: %d, not %d", name, x, got, y)
			}
			if got := b.Back(y); got != x {
				t.Fatalf("the box that is %s: Back of %d: %d, not %d", name, y, got, x)
			}
		}
	}
}

func TestSubIsTheInverseThatIsBent(t *testing.T) {
	b := sbox.New()
	for i := range 256 {
		x := byte(i)
		if got, want := b.Sub(x), bent(inverse(x))^99; got != want {
			t.Errorf("Sub of %d: %d, not %d", x, got, want)
		}
		if got, want := b.Sub(x), mat.Apply(sbox.Bend(), gf.Inv(x))^99; got != want {
			t.Errorf("Sub of %d: %d, not %d", x, got, want)
		}
	}
}

func TestBackFirst(t *testing.T) {
	for i, y := range table() {
		b := sbox.New()
		if got := b.Back(y); got != byte(i) {
			t.Fatalf("Back of %d, asked first: %d, not %d", y, got, i)
		}
		if got := b.Sub(byte(i)); got != y {
			t.Fatalf("Sub of %d, asked behind Back: %d, not %d", i, got, y)
		}
	}
}

func TestManyAskAtOnce(t *testing.T) {
	b, want := sbox.New(), table()
	var subs, backs [16][256]byte
	var ways [16][4]api.Mat
	var all sync.WaitGroup
	for i := range subs {
		all.Go(func() {
			for x := range 256 {
				if i%2 == 0 {
					subs[i][x], backs[i][x] = b.Sub(byte(x)), b.Back(want[x])
				} else {
					backs[i][x], subs[i][x] = b.Back(want[x]), b.Sub(byte(x))
				}
			}
			ways[i] = b.Ways()
		})
	}
	all.Wait()
	for i := range subs {
		if subs[i] != want {
			t.Errorf("asker %d: Sub", i)
		}
		for x := range 256 {
			if backs[i][x] != byte(x) {
				t.Errorf("asker %d: Back of %d: %d", i, want[x], backs[i][x])
			}
		}
		if ways[i] != sbox.New().Ways() {
			t.Errorf("asker %d: Ways", i)
		}
	}
}

func TestBoxesThatNewDidNotMakePanicNowhere(t *testing.T) {
	b := new(sbox.Box)
	b.Ways()
	b.Back(0)
	b.Sub(255)
}

// --- P7.2 ---

func TestWays(t *testing.T) {
	want := [4]api.Mat{
		{161, 4, 252, 24, 112, 210, 172, 160},
		{69, 63, 105, 37, 59, 238, 208, 6},
		{98, 146, 18, 111, 247, 120, 113, 198},
		{129, 176, 2, 194, 202, 84, 142, 212},
	}
	for name, b := range boxes() {
		for range 2 {
			if got := b.Ways(); got != want {
				t.Errorf("the box that is %s: Ways: %v, not %v", name, got, want)
			}
		}
	}
}

func TestWaysAreMadeOfTheTowersAndTheBend(t *testing.T) {
	f, bend := tower.New(), sbox.Bend()
	in, out := f.In(), f.Out()
	for name, b := range boxes() {
		ways := b.Ways()
		if ways[0] != in || ways[3] != out {
			t.Errorf("the box that is %s: the first way is not In, or the last one not Out", name)
		}
		if ways[1] != mat.Mul(bend, out) {
			t.Errorf("the box that is %s: the second way is not the bend behind Out: %v", name, ways[1])
		}
		// What undoes the bend is not told, but the third way behind the bend must be In.
		if mat.Mul(ways[2], bend) != in {
			t.Errorf("the box that is %s: the third way is not In behind the bend's inverse: %v", name, ways[2])
		}
	}
}

func TestWaysBehindOneAnother(t *testing.T) {
	for name, b := range boxes() {
		ways := b.Ways()
		if mat.Mul(ways[3], ways[0]) != mat.One() {
			t.Errorf("the box that is %s: the fourth way behind the first one", name)
		}
		if mat.Mul(ways[1], ways[2]) != mat.One() {
			t.Errorf("the box that is %s: the second way behind the third one", name)
		}
	}
}

func TestToldWaysAreNobodyElses(t *testing.T) {
	for name, b := range boxes() {
		first := b.Ways()
		kept := first
		for i := range first {
			first[i] = api.Mat{255}
		}
		if b.Ways() != kept {
			t.Errorf("the box that is %s: ways that were written to are told again", name)
		}
	}
}

// --- P7.3 ---

func TestSubThroughTheTower(t *testing.T) {
	for name, b := range boxes() {
		ways := b.Ways()
		for i := range 256 {
			x := byte(i)
			if got, want := mat.Apply(ways[1], tower.Inv(mat.Apply(ways[0], x)))^99, b.Sub(x); got != want {
				t.Fatalf("the box that is %s: %d through the tower: %d, and Sub: %d", name, x, got, want)
			}
		}
	}
}

func TestBackThroughTheTower(t *testing.T) {
	for name, b := range boxes() {
		ways := b.Ways()
		for i := range 256 {
			x := byte(i)
			if got, want := mat.Apply(ways[3], tower.Inv(mat.Apply(ways[2], x^99))), b.Back(x); got != want {
				t.Fatalf("the box that is %s: %d back through the tower: %d, and Back: %d", name, x, got, want)
			}
		}
	}
}

func TestBackIsTheOpposite(t *testing.T) {
	for name, b := range boxes() {
		for i := range 256 {
			x := byte(i)
			if b.Back(b.Sub(x)) != x || b.Sub(b.Back(x)) != x {
				t.Fatalf("the box that is %s: %d there and back is another one", name, x)
			}
		}
	}
}

func TestNoByteIsSubstitutedByItself(t *testing.T) {
	for name, b := range boxes() {
		for i := range 256 {
			x := byte(i)
			for call, y := range map[string]byte{"Sub": b.Sub(x), "Back": b.Back(x)} {
				if y == x || y == ^x {
					t.Errorf("the box that is %s: %s of %d: %d", name, call, x, y)
				}
			}
		}
	}
}
