package op_test

import (
	"fmt"
	"math"
	"math/big"
	"regexp"
	"slices"
	"strings"
	"sync"
	"testing"

	"visor/api"
	"visor/op"
)

// row is what the chapter says of a kind.
type row struct {
	kind int
	name string
	// regs is of how many registers an op is in a machine of two shares, and of three.
	regs [2]int
	// end is behind the greatest constant; 0, if each word may be one.
	end uint64
	// opens tells whether the op's register must belong to no share.
	opens bool
}

// rows is all kinds.
func rows() []row {
	return []row{
		{kind: 1, name: "rand", regs: [2]int{0, 0}, end: 1},
		{kind: 2, name: "key", regs: [2]int{1, 2}, end: 1048576},
		{kind: 3, name: "const", regs: [2]int{0, 0}},
		{kind: 4, name: "told", regs: [2]int{0, 0}},
		{kind: 5, name: "xor", regs: [2]int{2, 2}, end: 1},
		{kind: 6, name: "not", regs: [2]int{1, 1}, end: 1},
		{kind: 7, name: "and", regs: [2]int{2, 2}, end: 1},
		{kind: 8, name: "mask", regs: [2]int{1, 1}},
		{kind: 9, name: "shl", regs: [2]int{1, 1}, end: 64},
		{kind: 10, name: "shr", regs: [2]int{1, 1}, end: 64},
		{kind: 11, name: "rot", regs: [2]int{1, 1}, end: 64},
		{kind: 12, name: "open", regs: [2]int{2, 3}, end: 1, opens: true},
	}
}

// otherKinds is numbers that are no kind, among them those that come round to one in fewer bits.
func otherKinds() []int {
	return []int{
		0, -1, -2, -5, -12, 13, 14, 16, 17, 100, 256 + 5, 65536 + 5, 1<<32 + 5, 1<<32 + 12, -1<<32 + 5,
		math.MaxInt32, math.MinInt32, math.MaxInt, math.MinInt, math.MinInt + 5,
	}
}

// otherShares is numbers of shares that no machine has.
func otherShares() []int {
	return []int{0, 1, 4, 5, 64, -1, -2, -3, 256 + 2, 1<<32 + 2, 1<<32 + 3, math.MaxInt, math.MinInt, math.MinInt + 2}
}

// words is n words, such as a rule of numbers scatters.
func words(n int, seed uint64) []uint64 {
	out := make([]uint64, n)
	for i := range out {
		seed = seed*6364136223846793005 + 1442695040888963407
		out[i] = seed ^ seed>>29
	}
	return out
}

// edges is words at whose bits a mistake is seen, and some scattered ones.
func edges() []uint64 {
	out := []uint64{0, 1, 2, 3, 63, 64, 65, 1 << 31, 1 << 32, 1 << 62, 1 << 63, 1<<63 - 1, 0x5555555555555555, 0xaaaaaaaaaaaaaaaa, math.MaxUint64 - 1, math.MaxUint64}
	return append(out, words(24, 1)...)
}

// --- P17.1 ---

func TestNames(t *testing.T) {
	for _, r := range rows() {
		if got := op.Name(r.kind); got != r.name {
			t.Errorf("Name(%d) = %q", r.kind, got)
		}
		if got := op.Kind(r.name); got != r.kind {
			t.Errorf("Kind(%q) = %d", r.name, got)
		}
	}
}

func TestKindsAreThoseOfThePackageThatIsGiven(t *testing.T) {
	given := []int{api.Rand, api.Key, api.Const, api.Told, api.Xor, api.Not, api.And, api.Mask, api.Shl, api.Shr, api.Rot, api.Open}
	for i, r := range rows() {
		if got := op.Kind(r.name); got != given[i] {
			t.Errorf("Kind(%q) = %d", r.name, got)
		}
	}
}

func TestNamesOfOtherKinds(t *testing.T) {
	for _, kind := range otherKinds() {
		if got := op.Name(kind); got != "" {
			t.Errorf("Name(%d) = %q", kind, got)
		}
	}
}

func TestKindsOfOtherNames(t *testing.T) {
	others := []string{"", " ", "5", "0", "none", "nor", "or", "add", "mul", "encode", "fresh", "times", "isw", "dom", "\x00", "xor\x00", "ｘor", "rand key"}
	for _, r := range rows() {
		others = append(others, strings.ToUpper(r.name), strings.ToUpper(r.name[:1])+r.name[1:], r.name+" ", " "+r.name, r.name+"\n", r.name+r.name, r.name+"s", r.name+"0", r.name[:len(r.name)-1])
		// Without its first letter rand is a kind's name again.
		if rest := r.name[1:]; rest != "and" {
			others = append(others, rest)
		}
	}
	for _, name := range others {
		if got := op.Kind(name); got != 0 {
			t.Errorf("Kind(%q) = %d", name, got)
		}
	}
}

func TestRegs(t *testing.T) {
	for _, r := range rows() {
		for i, want := range r.regs {
			if got := op.Regs(r.kind, 2+i); got != want {
				t.Errorf("Regs(%d, %d) = %d", r.kind, 2+i, got)
			}
		}
	}
}

func TestRegsOfOthers(t *testing.T) {
	for _, kind := range otherKinds() {
		for _, n := range append(otherShares(), 2, 3) {
			if got := op.Regs(kind, n); got != 0 {
				t.Errorf("Regs(%d, %d) = %d", kind, n, got)
			}
		}
	}
	for _, r := range rows() {
		for _, n := range otherShares() {
			if got := op.Regs(r.kind, n); got != 0 {
				t.Errorf("Regs(%d, %d) = %d", r.kind, n, got)
			}
		}
	}
}

// mayStand tells by a kind's row whether an op with a right constant may stand there.
func mayStand(r row, o api.Op, at, n int) bool {
	if n != 2 && n != 3 {
		return false
	}
	regs := [3]int{o.A, o.B, o.D}
	count := r.regs[n-2]
	for _, reg := range regs[:count] {
		if !(0 <= reg && reg <= at-1) {
			return false
		}
	}
	for _, reg := range regs[count:] {
		if reg != -1 {
			return false
		}
	}
	if r.opens {
		return o.Dom == -1
	}
	return -1 <= o.Dom && o.Dom <= n-1
}

// TestRightOfAllSmall: all small registers, domains, places and numbers of shares, of each kind.
func TestRightOfAllSmall(t *testing.T) {
	for _, r := range rows() {
		stood := 0
		for n := 1; n <= 4; n++ {
			for at := range 4 {
				// Three registers from -2 to 4, and a domain from -2 to 4.
				for code := range 7 * 7 * 7 * 7 {
					o := api.Op{Kind: r.kind, A: code%7 - 2, B: code/7%7 - 2, D: code/49%7 - 2, Dom: code/343 - 2}
					want := mayStand(r, o, at, n)
					if got := op.Right(o, at, n); got != want {
						t.Fatalf("Right(%+v, %d, %d) = %t", o, at, n, got)
					}
					if want {
						stood++
					}
				}
			}
		}
		if stood == 0 {
			t.Errorf("no op of kind %d may stand anywhere", r.kind)
		}
	}
}

// standing is an op of a kind that may stand at the place 9 in a machine of n shares.
func standing(r row, n int) api.Op {
	o := api.Op{Kind: r.kind, Dom: -1, A: -1, B: -1, D: -1}
	for i, reg := range []*int{&o.A, &o.B, &o.D} {
		if i < r.regs[n-2] {
			*reg = 8 - i
		}
	}
	return o
}

func TestRightOfConstants(t *testing.T) {
	constants := []uint64{
		0, 1, 2, 31, 32, 62, 63, 64, 65, 127, 128, 255, 256, 1<<16 - 1, 1 << 16, 1<<20 - 2, 1<<20 - 1, 1 << 20, 1<<20 + 1, 1 << 21,
		1<<32 - 1, 1 << 32, 1<<32 + 5, 1<<62 - 1, 1 << 62, 1<<63 - 1, 1 << 63, math.MaxUint64 - 62, math.MaxUint64 - 1, math.MaxUint64,
	}
	for _, r := range rows() {
		for n := 2; n <= 3; n++ {
			o := standing(r, n)
			for _, c := range constants {
				o.C = c
				want := r.end == 0 || c < r.end
				if got := op.Right(o, 9, n); got != want {
					t.Errorf("Right(%+v, 9, %d) = %t", o, n, got)
				}
			}
		}
	}
}

// TestRightOfFarPlaces: a register is made ahead of the place, however far that is, and no bound of a machine's ops is asked for.
func TestRightOfFarPlaces(t *testing.T) {
	for _, r := range rows() {
		for n := 2; n <= 3; n++ {
			for _, at := range []int{9, 1000, 1<<20 - 1, 1 << 20, 1<<20 + 1, 1 << 40, math.MaxInt} {
				o := standing(r, n)
				if !op.Right(o, at, n) {
					t.Errorf("Right(%+v, %d, %d) = false", o, at, n)
				}
				if r.regs[n-2] == 0 {
					continue
				}
				for reg, want := range map[int]bool{0: true, at - 1: true, at: false, -1: false, math.MinInt: false, math.MaxInt: false} {
					o.A = reg
					if got := op.Right(o, at, n); got != want {
						t.Errorf("Right(%+v, %d, %d) = %t", o, at, n, got)
					}
				}
			}
		}
	}
}

// TestRightOfFarNumbers: each number alone that is far away is seen.
func TestRightOfFarNumbers(t *testing.T) {
	for _, r := range rows() {
		for n := 2; n <= 3; n++ {
			for _, far := range []int{math.MinInt, math.MinInt + 1, -1 << 32, -1<<32 - 1, -2, 9, 10, 1 << 32, 1<<32 - 1, 1<<32 + 1, math.MaxInt} {
				for i := range 4 {
					o := standing(r, n)
					*[]*int{&o.A, &o.B, &o.D, &o.Dom}[i] = far
					if op.Right(o, 9, n) {
						t.Errorf("Right(%+v, 9, %d) = true", o, n)
					}
				}
			}
		}
	}
}

func TestRightOfOtherKinds(t *testing.T) {
	for _, kind := range otherKinds() {
		for n := 2; n <= 3; n++ {
			for _, r := range rows() {
				o := standing(r, n)
				o.Kind = kind
				if op.Right(o, 9, n) {
					t.Errorf("Right(%+v, 9, %d) = true", o, n)
				}
			}
		}
	}
}

func TestRightOfOtherShares(t *testing.T) {
	for _, r := range rows() {
		for _, n := range otherShares() {
			for like := 2; like <= 3; like++ {
				if o := standing(r, like); op.Right(o, 9, n) {
					t.Errorf("Right(%+v, 9, %d) = true", o, n)
				}
			}
			if o := (api.Op{Kind: r.kind, Dom: -1, A: -1, B: -1, D: -1}); op.Right(o, 9, n) {
				t.Errorf("Right(%+v, 9, %d) = true", o, n)
			}
		}
	}
}

// TestRightOfFirstPlaces: at the first place only an op of no register may stand, and none ahead of it.
func TestRightOfFirstPlaces(t *testing.T) {
	for _, r := range rows() {
		for n := 2; n <= 3; n++ {
			for _, at := range []int{0, -1, -2, -9, math.MinInt + 1, math.MinInt} {
				o := api.Op{Kind: r.kind, Dom: -1, A: -1, B: -1, D: -1}
				want := at == 0 && r.regs[n-2] == 0
				if got := op.Right(o, at, n); got != want {
					t.Errorf("Right(%+v, %d, %d) = %t", o, at, n, got)
				}
				if o = standing(r, n); r.regs[n-2] > 0 && op.Right(o, at, n) {
					t.Errorf("Right(%+v, %d, %d) = true", o, at, n)
				}
			}
		}
	}
}

// --- P17.2 ---

func TestEvalOfWords(t *testing.T) {
	const a, b, d, x = 0x00ff00ff00ff00ff, 0x0f0f0f0f0f0f0f0f, 0x3333333333333333, 0x5555555555555555
	for _, r := range []struct {
		kind    int
		c, want uint64
	}{
		{1, 0, 0x5555555555555555},
		{2, 0, 0x5aa55aa55aa55aa5},
		{2, 3, 0x5aa55aa55aa55aa5},
		{3, 7, 7},
		{4, 1 << 63, 1 << 63},
		{5, 0, 0x0ff00ff00ff00ff0},
		{6, 0, 0xff00ff00ff00ff00},
		{7, 0, 0x000f000f000f000f},
		{8, 0xf0, 0xf0},
		{8, 0xff00, 0},
		{9, 0, a},
		{9, 8, 0xff00ff00ff00ff00},
		{9, 60, 0xf000000000000000},
		{10, 0, a},
		{10, 8, 0x0000ff00ff00ff00},
		{10, 52, 0x000000000000000f},
		{11, 0, a},
		{11, 8, 0xff00ff00ff00ff00},
		{11, 4, 0x0ff00ff00ff00ff0},
		{11, 12, 0xf00ff00ff00ff00f},
		{11, 63, 0x807f807f807f807f},
		{12, 0, 0x3cc33cc33cc33cc3},
	} {
		if got := op.Eval(api.Op{Kind: r.kind, C: r.c}, a, b, d, x); got != r.want {
			t.Errorf("Eval of kind %d and %d = %#x", r.kind, r.c, got)
		}
	}
}

// bit is what an op makes as bit i, bit by bit as the chapter says.
func bit(o api.Op, i int, a, b, d, x uint64) bool {
	at := func(w uint64, place int) bool { return place >= 0 && place < 64 && w&(1<<place) != 0 }
	move := int(o.C % 64)
	switch o.Kind {
	case 1:
		return at(x, i)
	case 2:
		return at(x, i) != (at(a, i) != at(b, i))
	case 3, 4:
		return at(o.C, i)
	case 5:
		return at(a, i) != at(b, i)
	case 6:
		return !at(a, i)
	case 7:
		return at(a, i) && at(b, i)
	case 8:
		return at(a, i) && at(o.C, i)
	case 9:
		return at(a, i-move)
	case 10:
		return at(a, i+move)
	case 11:
		return at(a, (i-move+64)%64)
	}
	return at(a, i) != (at(b, i) != at(d, i))
}

// made is what an op makes, put together of its bits.
func made(o api.Op, a, b, d, x uint64) uint64 {
	var out uint64
	for i := range 64 {
		if bit(o, i, a, b, d, x) {
			out |= 1 << i
		}
	}
	return out
}

func TestEvalBitByBit(t *testing.T) {
	all := edges()
	for _, r := range rows() {
		for i, a := range all {
			for k, b := range all {
				d, x, c := all[(i+3*k+1)%len(all)], all[(5*i+k+2)%len(all)], all[(i+k)%len(all)]
				o := api.Op{Kind: r.kind, C: c}
				if got, want := op.Eval(o, a, b, d, x), made(o, a, b, d, x); got != want {
					t.Fatalf("Eval(%+v, %#x, %#x, %#x, %#x) = %#x, not %#x", o, a, b, d, x, got, want)
				}
			}
		}
	}
}

// TestEvalOfAllMoves: of all moves, and those that are by as many bits as one modulo 64.
func TestEvalOfAllMoves(t *testing.T) {
	for _, kind := range []int{9, 10, 11} {
		for move := range uint64(64) {
			for _, by := range []uint64{0, 64, 128, 1 << 31, 1 << 32, 1 << 63, math.MaxUint64 - 63} {
				o := api.Op{Kind: kind, C: move + by}
				for _, a := range edges() {
					if got, want := op.Eval(o, a, 0, 0, 0), made(api.Op{Kind: kind, C: move}, a, 0, 0, 0); got != want {
						t.Fatalf("Eval(%+v, %#x) = %#x, not %#x", o, a, got, want)
					}
				}
			}
		}
	}
}

// TestEvalLooksAtItsWordsAlone: words that an op is not of count for nothing, nor do its registers and its domain.
func TestEvalLooksAtItsWordsAlone(t *testing.T) {
	// Which of a, b, d, x and C count, kind by kind.
	counts := [][5]bool{
		{false, false, false, true, false},
		{true, true, false, true, false},
		{false, false, false, false, true},
		{false, false, false, false, true},
		{true, true, false, false, false},
		{true, false, false, false, false},
		{true, true, false, false, false},
		{true, false, false, false, true},
		{true, false, false, false, true},
		{true, false, false, false, true},
		{true, false, false, false, true},
		{true, true, true, false, false},
	}
	for i, r := range rows() {
		var differs [5]bool
		for _, w := range words(50, 7) {
			in := words(5, w)
			o := api.Op{Kind: r.kind, Dom: -1, A: -1, B: -1, D: -1, C: in[4]}
			was := op.Eval(o, in[0], in[1], in[2], in[3])
			elsewhere := api.Op{Kind: r.kind, Dom: 2, A: math.MinInt, B: 7, D: math.MaxInt, C: in[4]}
			if got := op.Eval(elsewhere, in[0], in[1], in[2], in[3]); got != was {
				t.Errorf("Eval of kind %d hangs on registers, or the domain", r.kind)
			}
			for k := range in {
				other := slices.Clone(in)
				other[k] = ^other[k]
				o.C = other[4]
				differs[k] = differs[k] || op.Eval(o, other[0], other[1], other[2], other[3]) != was
			}
		}
		if differs != counts[i] {
			t.Errorf("Eval of kind %d: of a, b, d, x and C count %v", r.kind, differs)
		}
	}
}

func TestEvalOfOtherKinds(t *testing.T) {
	for _, kind := range otherKinds() {
		for _, w := range edges() {
			if got := op.Eval(api.Op{Kind: kind, C: w}, w, ^w, w+1, 3*w+5); got != 0 {
				t.Errorf("Eval of kind %d = %#x", kind, got)
			}
		}
	}
}

// pair is an op, and its line.
type pair struct {
	o    api.Op
	line string
}

// pairs is some ops, and their lines.
func pairs() []pair {
	return []pair{
		{api.Op{Kind: 1, Dom: -1, A: -1, B: -1, D: -1}, "rand -1 -1 -1 -1 0"},
		{api.Op{Kind: 2, Dom: 0, A: 3, B: 4, D: -1, C: 1048575}, "key 0 3 4 -1 1048575"},
		{api.Op{Kind: 3, Dom: 1, A: -1, B: -1, D: -1, C: math.MaxUint64}, "const 1 -1 -1 -1 18446744073709551615"},
		{api.Op{Kind: 4, Dom: 2, A: -1, B: -1, D: -1, C: 1 << 63}, "told 2 -1 -1 -1 9223372036854775808"},
		{api.Op{Kind: 5, Dom: 0, A: 10, B: 200, D: -1}, "xor 0 10 200 -1 0"},
		{api.Op{Kind: 6, Dom: 0, A: 1048575, B: -1, D: -1}, "not 0 1048575 -1 -1 0"},
		{api.Op{Kind: 7, Dom: 1, A: 5, B: 6, D: -1}, "and 1 5 6 -1 0"},
		{api.Op{Kind: 8, Dom: 1, A: 5, B: -1, D: -1, C: 255}, "mask 1 5 -1 -1 255"},
		{api.Op{Kind: 9, Dom: 1, A: 5, B: -1, D: -1, C: 63}, "shl 1 5 -1 -1 63"},
		{api.Op{Kind: 10, Dom: 1, A: 5, B: -1, D: -1, C: 10}, "shr 1 5 -1 -1 10"},
		{api.Op{Kind: 11, Dom: 1, A: 5, B: -1, D: -1, C: 1}, "rot 1 5 -1 -1 1"},
		{api.Op{Kind: 12, Dom: -1, A: 5, B: 6, D: 7}, "open -1 5 6 7 0"},
		// An op has a line whether it may stand anywhere or not.
		{api.Op{Kind: 1}, "rand 0 0 0 0 0"},
		{api.Op{Kind: 5, Dom: 1 << 62, A: -1 << 62, B: 1<<62 - 1, D: -1<<62 + 1, C: 7}, "xor 4611686018427387904 -4611686018427387904 4611686018427387903 -4611686018427387903 7"},
		{api.Op{Kind: 12, Dom: 9, A: -100, B: 5, D: -3, C: 77}, "open 9 -100 5 -3 77"},
	}
}

func TestLines(t *testing.T) {
	for _, p := range pairs() {
		if got := op.Line(p.o); got != p.line {
			t.Errorf("Line(%+v) = %q", p.o, got)
		}
		if got, ok := op.Parse(p.line); got != p.o || !ok {
			t.Errorf("Parse(%q) = %+v, %t", p.line, got, ok)
		}
	}
}

// TestLinesOfFarNumbers: numbers have a line, too, where none is read.
func TestLinesOfFarNumbers(t *testing.T) {
	for _, n := range []int{math.MinInt, -1<<62 - 1, 1<<62 + 1, math.MaxInt} {
		for i := range 4 {
			numbers := [4]int{1, 2, 3, 4}
			numbers[i] = n
			o := api.Op{Kind: 7, Dom: numbers[0], A: numbers[1], B: numbers[2], D: numbers[3], C: 9}
			want := fmt.Sprintf("and %d %d %d %d 9", numbers[0], numbers[1], numbers[2], numbers[3])
			if got := op.Line(o); got != want {
				t.Errorf("Line(%+v) = %q", o, got)
			}
			if got, ok := op.Parse(want); got != (api.Op{}) || ok {
				t.Errorf("Parse(%q) = %+v, %t", want, got, ok)
			}
		}
	}
}

// TestLinesOfOtherKinds: these have no name, so their lines begin with a blank, and none is read.
func TestLinesOfOtherKinds(t *testing.T) {
	for _, kind := range otherKinds() {
		line := op.Line(api.Op{Kind: kind, Dom: -1, A: 1, B: 2, D: 3, C: 4})
		if line != " -1 1 2 3 4" {
			t.Errorf("Line of kind %d: %q", kind, line)
		}
		if got, ok := op.Parse(line); got != (api.Op{}) || ok {
			t.Errorf("Parse(%q) = %+v, %t", line, got, ok)
		}
	}
}

func TestEachLineIsRead(t *testing.T) {
	numbers := []int{0, 1, -1, 9, -9, 10, -10, 99, 100, 1 << 20, math.MaxInt32, math.MinInt32, 1<<62 - 1, 1 << 62, -1 << 62}
	constants := append(edges(), 9, 10, 99, 100, 1<<20-1)
	for _, r := range rows() {
		for i, w := range words(2000, uint64(r.kind)) {
			pick := func(by uint) int { return numbers[w>>by%uint64(len(numbers))] }
			o := api.Op{Kind: r.kind, Dom: pick(0), A: pick(8), B: pick(16), D: pick(24), C: constants[i%len(constants)]}
			line := op.Line(o)
			if want := fmt.Sprintf("%s %d %d %d %d %d", r.name, o.Dom, o.A, o.B, o.D, o.C); line != want {
				t.Fatalf("Line(%+v) = %q", o, line)
			}
			if got, ok := op.Parse(line); got != o || !ok {
				t.Fatalf("Parse(%q) = %+v, %t", line, got, ok)
			}
		}
	}
}

func TestLinesThatAreNone(t *testing.T) {
	for _, line := range []string{
		"", " ", "     ", "rand", "rand ", "xor 0 1 2 -1", "xor 0 1 2 -1 ", "xor 0 1 2 -1 0 ", " xor 0 1 2 -1 0", "xor 0 1 2 -1 0 0",
		"xor  0 1 2 -1 0", "xor 0  1 2 -1 0", "xor 0 1 2 -1  0", "xor 0 1 2  0", "xor\t0 1 2 -1 0", "xor 0\t1 2 -1 0", "xor 0 1 2 -1 0\n", "xor 0 1 2 -1 0\r",
		"xor,0,1,2,-1,0", "XOR 0 1 2 -1 0", "Xor 0 1 2 -1 0", "5 0 1 2 -1 0", " 0 1 2 -1 0", "nor 0 1 2 -1 0", "xo 0 1 2 -1 0", "xorr 0 1 2 -1 0",
		"xor 00 1 2 -1 0", "xor 0 01 2 -1 0", "xor 0 1 02 -1 0", "xor 0 1 2 -01 0", "xor 0 1 2 -1 00", "xor 0 1 2 -1 01",
		"xor -0 1 2 -1 0", "xor 0 1 2 -1 -0", "xor +0 1 2 -1 0", "xor 0 +1 2 -1 0", "xor 0 1 2 -1 +0", "xor 0 1 2 -1 +5", "xor 0 1 2 -1 -1",
		"xor 0 1 2 - 0", "xor 0 1 2 --1 0", "xor 0 1 2 -1 -", "xor 0x1 1 2 -1 0", "xor 0 1 2 -1 0x1", "xor 0 1e1 2 -1 0", "xor 0 1.0 2 -1 0", "xor 0 1_0 2 -1 0", "xor 0 1 2 -1 1_0",
		"xor a 1 2 -1 0", "xor 0 a 2 -1 0", "xor 0 1 a -1 0", "xor 0 1 2 a 0", "xor 0 1 2 -1 a", "xor 0 1 2 −1 0", "xor 0 1 2 -1 ٣", "xor 0 １ 2 -1 0", "xor\u00a00 1 2 -1 0",
		"xor 0 1 2 -1 18446744073709551616", "xor 0 1 2 -1 18446744073709551617", "xor 0 1 2 -1 36893488147419103232", "xor 0 1 2 -1 100000000000000000000000000000",
		"xor 4611686018427387905 1 2 -1 0", "xor 0 4611686018427387905 2 -1 0", "xor 0 1 4611686018427387905 -1 0", "xor 0 1 2 4611686018427387905 0",
		"xor -4611686018427387905 1 2 -1 0", "xor 0 -4611686018427387905 2 -1 0", "xor 0 1 -4611686018427387905 -1 0", "xor 0 1 2 -4611686018427387905 0",
		"xor 0 9223372036854775807 2 -1 0", "xor 0 9223372036854775808 2 -1 0", "xor 0 -9223372036854775808 2 -1 0", "xor 0 -9223372036854775809 2 -1 0",
		"xor 0 18446744073709551615 2 -1 0", "xor 0 18446744073709551616 2 -1 0", "xor 0 18446744073709551617 2 -1 0",
		"\x00xor 0 1 2 -1 0", "xor 0 1 2 -1 0\x00", "xor 0 1 2 -1 0\xff", "xor 0 1 2 -1 0;", "xor 0 1 2 -1 0\nxor 0 1 2 -1 0",
		"xor 0 1 2 -1 " + strings.Repeat("0", 1<<16), "xor 0 " + strings.Repeat("9", 1<<16) + " 2 -1 0", strings.Repeat(" ", 1<<16), "xor" + strings.Repeat(" 0", 1<<16),
	} {
		if got, ok := op.Parse(line); got != (api.Op{}) || ok {
			t.Errorf("Parse(%.60q) = %+v, %t", line, got, ok)
		}
	}
}

// form is how lines of ops of kinds are written.
var form = regexp.MustCompile(`^(rand|key|const|told|xor|not|and|mask|shl|shr|rot|open) (0|-?[1-9][0-9]*) (0|-?[1-9][0-9]*) (0|-?[1-9][0-9]*) (0|-?[1-9][0-9]*) (0|[1-9][0-9]*)$`)

// isLine tells by the form, and by long numbers, whether an op has that line.
func isLine(s string) bool {
	fields := form.FindStringSubmatch(s)
	if fields == nil {
		return false
	}
	far := new(big.Int).Lsh(big.NewInt(1), 62)
	for _, field := range fields[2:6] {
		n, _ := new(big.Int).SetString(field, 10)
		if n.CmpAbs(far) > 0 {
			return false
		}
	}
	c, _ := new(big.Int).SetString(fields[6], 10)
	return c.BitLen() <= 64
}

// TestLinesThatAreAlmostRight: one byte of a line is left out, put in, or another one.
func TestLinesThatAreAlmostRight(t *testing.T) {
	const bytes = "0123456789-+ _.xeornkadt\t\n\x00\xff"
	read := 0
	look := func(s string) {
		got, ok := op.Parse(s)
		if ok != isLine(s) {
			t.Fatalf("Parse(%q) = %+v, %t", s, got, ok)
		}
		if ok && op.Line(got) != s || !ok && got != (api.Op{}) {
			t.Fatalf("Parse(%q) = %+v, %t", s, got, ok)
		}
		if ok {
			read++
		}
	}
	for _, p := range pairs() {
		for i := range p.line {
			look(p.line[:i] + p.line[i+1:])
			look(p.line[:i])
			look(p.line[i:])
			for _, b := range []byte(bytes) {
				look(p.line[:i] + string([]byte{b}) + p.line[i+1:])
				look(p.line[:i] + string([]byte{b}) + p.line[i:])
			}
		}
		for _, b := range []byte(bytes) {
			look(p.line + string([]byte{b}))
		}
	}
	if read < 1000 {
		t.Errorf("only %d lines were read", read)
	}
}

// TestNumbersOfLinesAtTheirEnds: the greatest and least numbers that are read, and those next to them, in each field.
func TestNumbersOfLinesAtTheirEnds(t *testing.T) {
	for _, end := range []string{"4611686018427387904", "-4611686018427387904", "18446744073709551615", "-18446744073709551615", "9223372036854775807", "-9223372036854775808", "0", "10000000000000000000"} {
		middle, _ := new(big.Int).SetString(end, 10)
		for by := int64(-3); by <= 3; by++ {
			number := new(big.Int).Add(middle, big.NewInt(by)).String()
			for field := 1; field <= 5; field++ {
				fields := []string{"and", "0", "1", "2", "3", "4"}
				fields[field] = number
				line := strings.Join(fields, " ")
				got, ok := op.Parse(line)
				if ok != isLine(line) || ok && op.Line(got) != line {
					t.Errorf("Parse(%q) = %+v, %t", line, got, ok)
				}
			}
		}
	}
}

// --- P17.3 ---

// TestOpsKeepSums: of two rows of words, put together, they make what both make, put together.
func TestOpsKeepSums(t *testing.T) {
	for _, r := range rows() {
		if r.kind == api.And {
			continue
		}
		for _, w := range append(edges(), words(500, 11)...) {
			in, next := words(5, w), words(5, ^w)
			one, two := api.Op{Kind: r.kind, C: in[4]}, api.Op{Kind: r.kind, C: in[4]}
			// The constant words of const, told, and not are put together, too; others are how words are moved and cut.
			both, turned := one, uint64(0)
			switch r.kind {
			case api.Const, api.Told:
				two.C = next[4]
				both.C = in[4] ^ next[4]
			case api.Not:
				turned = math.MaxUint64
			}
			apart := op.Eval(one, in[0], in[1], in[2], in[3]) ^ op.Eval(two, next[0], next[1], next[2], next[3])
			together := op.Eval(both, in[0]^next[0], in[1]^next[1], in[2]^next[2], in[3]^next[3])
			if together^turned != apart {
				t.Fatalf("an op of kind %d does not keep sums: %#x, %#x", r.kind, together, apart)
			}
		}
	}
}

// TestAndKeepsNoSums: but it does of either word alone.
func TestAndKeepsNoSums(t *testing.T) {
	and := api.Op{Kind: api.And}
	kept := 0
	all := words(500, 13)
	for _, w := range all {
		in := words(4, w)
		if op.Eval(and, in[0]^in[2], in[1], 0, 0) != op.Eval(and, in[0], in[1], 0, 0)^op.Eval(and, in[2], in[1], 0, 0) {
			t.Fatal("an and op does not keep sums of its first word")
		}
		if op.Eval(and, in[0], in[1]^in[3], 0, 0) != op.Eval(and, in[0], in[1], 0, 0)^op.Eval(and, in[0], in[3], 0, 0) {
			t.Fatal("an and op does not keep sums of its second word")
		}
		if op.Eval(and, in[0]^in[2], in[1]^in[3], 0, 0) == op.Eval(and, in[0], in[1], 0, 0)^op.Eval(and, in[2], in[3], 0, 0) {
			kept++
		}
	}
	if kept == len(all) {
		t.Error("an and op keeps sums of both words")
	}
}

// --- What holds everywhere ---

// TestAllEnds: at all arguments each call ends, and none panics.
func TestAllEnds(t *testing.T) {
	far := []int{math.MinInt, math.MinInt + 1, -65, -64, -1, 0, 1, 2, 3, 11, 12, 13, 64, math.MaxInt - 1, math.MaxInt}
	for _, kind := range far {
		for _, n := range far {
			op.Regs(kind, n)
			for _, at := range far {
				for _, reg := range far {
					o := api.Op{Kind: kind, Dom: n, A: reg, B: at, D: reg, C: uint64(reg)}
					op.Right(o, at, n)
					op.Eval(o, uint64(at), uint64(reg), uint64(n), uint64(kind))
					op.Parse(op.Line(o))
				}
			}
		}
	}
}

func TestManyAskAtOnce(t *testing.T) {
	var group sync.WaitGroup
	for range 16 {
		group.Go(func() {
			for _, r := range rows() {
				if op.Name(r.kind) != r.name || op.Kind(r.name) != r.kind || op.Regs(r.kind, 3) != r.regs[1] || !op.Right(standing(r, 2), 9, 2) {
					t.Error("with others at once, a kind is told otherwise")
				}
			}
			for _, p := range pairs() {
				if got, ok := op.Parse(p.line); got != p.o || !ok || op.Line(p.o) != p.line {
					t.Error("with others at once, a line is told otherwise")
				}
			}
		})
	}
	group.Wait()
}
