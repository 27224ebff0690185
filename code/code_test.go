package code_test

import (
	"bytes"
	"crypto/sha3"
	"encoding/binary"
	"encoding/hex"
	"math"
	"math/big"
	"strings"
	"sync"
	"testing"

	"visor/api"
	"visor/code"
	"visor/keccak"
)

// scattered is n bytes, such as a rule of numbers scatters.
func scattered(n int, seed uint64) []byte {
	out := make([]byte, n)
	for i := range out {
		seed = seed*6364136223846793005 + 1442695040888963407
		out[i] = byte(seed >> 56)
	}
	return out
}

// decoded is bytes that are written as hexadecimal digits, with blanks.
func decoded(t *testing.T, text string) []byte {
	t.Helper()
	b, err := hex.DecodeString(strings.ReplaceAll(text, " ", ""))
	if err != nil {
		t.Fatal(err)
	}
	return b
}

// numbers is numbers from 0 on, with all those about which the number of bytes changes.
func numbers() []int {
	var out []int
	for n := range 70000 {
		out = append(out, n)
	}
	for bit := 16; bit < 63; bit++ {
		for _, by := range []int{-2, -1, 0, 1, 2, 255, 256} {
			out = append(out, 1<<bit+by)
		}
	}
	return append(out, math.MaxInt32, math.MaxUint32, math.MaxInt-1, math.MaxInt)
}

// written is a number's bytes by the long numbers of the library, which write 0 as none.
func written(n int) []byte {
	if n == 0 {
		return []byte{0}
	}
	return big.NewInt(int64(n)).Bytes()
}

// put is a string, put, byte by byte as the chapter says.
func put(b []byte) []byte {
	number := written(8 * len(b))
	out := []byte{byte(len(number))}
	out = append(out, number...)
	return append(out, b...)
}

// lengths is how long strings are about which the number ahead of them gets longer, and some others.
func lengths() []int {
	return []int{0, 1, 2, 3, 7, 8, 30, 31, 32, 33, 100, 200, 512, 1000, 8190, 8191, 8192, 8193, 70000, 1<<21 - 1, 1 << 21, 1<<21 + 1}
}

// --- P14.1 ---

func TestLeftAndRightOfTheStandard(t *testing.T) {
	for _, row := range []struct {
		n           int
		left, right string
	}{
		{0, "01 00", "00 01"},
		{1, "01 01", "01 01"},
		{12, "01 0c", "0c 01"},
		{255, "01 ff", "ff 01"},
		{256, "02 01 00", "01 00 02"},
		{512, "02 02 00", "02 00 02"},
		{65535, "02 ff ff", "ff ff 02"},
		{65536, "03 01 00 00", "01 00 00 03"},
		{54321, "02 d4 31", "d4 31 02"},
		{1<<24 - 1, "03 ff ff ff", "ff ff ff 03"},
		{1 << 24, "04 01 00 00 00", "01 00 00 00 04"},
		{1 << 32, "05 01 00 00 00 00", "01 00 00 00 00 05"},
		{0x0102030405060708, "08 01 02 03 04 05 06 07 08", "01 02 03 04 05 06 07 08 08"},
		{math.MaxInt, "08 7f ff ff ff ff ff ff ff", "7f ff ff ff ff ff ff ff 08"},
	} {
		if got := code.Left(row.n); !bytes.Equal(got, decoded(t, row.left)) {
			t.Errorf("Left(%d) = %x", row.n, got)
		}
		if got := code.Right(row.n); !bytes.Equal(got, decoded(t, row.right)) {
			t.Errorf("Right(%d) = %x", row.n, got)
		}
	}
}

func TestLeftAndRightOfAll(t *testing.T) {
	for _, n := range numbers() {
		number := written(n)
		count := []byte{byte(len(number))}
		if got := code.Left(n); !bytes.Equal(got, append(bytes.Clone(count), number...)) {
			t.Fatalf("Left(%d) = %x", n, got)
		}
		if got := code.Right(n); !bytes.Equal(got, append(bytes.Clone(number), count...)) {
			t.Fatalf("Right(%d) = %x", n, got)
		}
	}
}

func TestNumbersBelowNothing(t *testing.T) {
	for _, n := range []int{-1, -2, -8, -255, -256, math.MinInt32, math.MinInt + 1, math.MinInt} {
		if got := code.Left(n); len(got) != 0 {
			t.Errorf("Left(%d) = %x", n, got)
		}
		if got := code.Right(n); len(got) != 0 {
			t.Errorf("Right(%d) = %x", n, got)
		}
	}
}

func TestStr(t *testing.T) {
	for _, row := range []struct{ text, want string }{
		{"", "01 00"},
		{"KMAC", "01 20 4b 4d 41 43"},
		{"Email Signature", "01 78 45 6d 61 69 6c 20 53 69 67 6e 61 74 75 72 65"},
		{"\x00", "01 08 00"},
		{"\x00\x01\x02", "01 18 00 01 02"},
	} {
		if got := code.Str([]byte(row.text)); !bytes.Equal(got, decoded(t, row.want)) {
			t.Errorf("Str(%q) = %x", row.text, got)
		}
	}
	if got := code.Str(nil); !bytes.Equal(got, []byte{1, 0}) {
		t.Errorf("Str(nil) = %x", got)
	}
	for _, n := range lengths() {
		b := scattered(n, uint64(n))
		if !bytes.Equal(code.Str(b), put(b)) {
			t.Errorf("Str of %d bytes", n)
		}
	}
}

// TestPadOfTheStandard: as the standard's samples of cSHAKE and KMAC print it.
func TestPadOfTheStandard(t *testing.T) {
	for _, row := range []struct {
		b    []byte
		w    int
		want string
	}{
		{code.Join(nil, []byte("Email Signature")), 168, "01 a8 01 00 01 78 45 6d 61 69 6c 20 53 69 67 6e 61 74 75 72 65"},
		{code.Join(nil, []byte("Email Signature")), 136, "01 88 01 00 01 78 45 6d 61 69 6c 20 53 69 67 6e 61 74 75 72 65"},
		{code.Join([]byte("KMAC"), nil), 168, "01 a8 01 20 4b 4d 41 43 01 00"},
		{code.Join([]byte("KMAC"), []byte("My Tagged Application")), 136, "01 88 01 20 4b 4d 41 43 01 a8 4d 79 20 54 61 67 67 65 64 20 41 70 70 6c 69 63 61 74 69 6f 6e"},
	} {
		want := append(decoded(t, row.want), make([]byte, row.w)...)[:row.w]
		if got, e := code.Pad(row.b, row.w); e != api.OK || !bytes.Equal(got, want) {
			t.Errorf("Pad(%x, %d) = %x, %d", row.b, row.w, got, e)
		}
	}
}

// TestPadOfAllWidths: what is ahead, what is behind, and no byte more than it takes.
func TestPadOfAllWidths(t *testing.T) {
	for w := 1; w <= 1000; w++ {
		number := written(w)
		head := append([]byte{byte(len(number))}, number...)
		for _, n := range []int{0, 1, w - len(head) - 1, w - len(head), w - len(head) + 1, 2*w - len(head), 2*w - len(head) + 1, 777} {
			if n < 0 {
				continue
			}
			b := scattered(n, uint64(w))
			got, e := code.Pad(b, w)
			if e != api.OK {
				t.Fatalf("Pad of %d bytes to %d: %d", n, w, e)
			}
			want := append(bytes.Clone(head), b...)
			for len(want)%w != 0 {
				want = append(want, 0)
			}
			if !bytes.Equal(got, want) {
				t.Fatalf("Pad of %d bytes to %d = %x", n, w, got)
			}
		}
	}
}

func TestPadOfSmallWidths(t *testing.T) {
	for _, row := range []struct {
		b    []byte
		w    int
		want []byte
	}{
		{nil, 1, []byte{1, 1}},
		{nil, 2, []byte{1, 2}},
		{nil, 3, []byte{1, 3, 0}},
		{nil, 5, []byte{1, 5, 0, 0, 0}},
		{[]byte{9}, 1, []byte{1, 1, 9}},
		{[]byte{9}, 2, []byte{1, 2, 9, 0}},
		{[]byte{9}, 3, []byte{1, 3, 9}},
		{[]byte{9, 8}, 3, []byte{1, 3, 9, 8, 0, 0}},
		{[]byte{0, 0}, 4, []byte{1, 4, 0, 0}},
	} {
		if got, e := code.Pad(row.b, row.w); e != api.OK || !bytes.Equal(got, row.want) {
			t.Errorf("Pad(%v, %d) = %v, %d", row.b, row.w, got, e)
		}
	}
}

func TestPadOfWidthsThatAreNone(t *testing.T) {
	for _, w := range []int{0, -1, -2, -168, -1000, 1001, 1002, 1008, 1 << 16, math.MaxInt32, math.MinInt32, math.MaxInt, math.MinInt} {
		for _, b := range [][]byte{nil, {}, {1, 2, 3}} {
			if got, e := code.Pad(b, w); e != api.ErrArg || len(got) != 0 {
				t.Errorf("Pad(%v, %d) = %v, %d", b, w, got, e)
			}
		}
	}
}

// --- P14.2 ---

func TestTake(t *testing.T) {
	for _, row := range []struct {
		b    []byte
		want []byte
		n    int
	}{
		{[]byte{1, 0}, nil, 2},
		{[]byte{1, 0, 7, 7}, nil, 2},
		{[]byte{1, 8, 9}, []byte{9}, 3},
		{[]byte{1, 8, 9, 1, 8, 5}, []byte{9}, 3},
		{[]byte{1, 16, 9, 1, 8, 5}, []byte{9, 1}, 4},
		{[]byte{1, 248, 0}, nil, -1},
		{append([]byte{1, 248}, scattered(40, 1)...), scattered(31, 1), 33},
		{append([]byte{2, 1, 0}, scattered(40, 2)...), scattered(32, 2), 35},
		{append([]byte{2, 1, 8}, scattered(40, 3)...), scattered(33, 3), 36},
	} {
		got, n, ok := code.Take(row.b)
		if row.n < 0 {
			refused(t, row.b)
		} else if !ok || n != row.n || !bytes.Equal(got, row.want) {
			t.Errorf("Take(%x) = %x, %d, %v", row.b, got, n, ok)
		}
	}
}

// refused tells of bytes that begin with a string, where they must not.
func refused(t *testing.T, b []byte) {
	t.Helper()
	if got, n, ok := code.Take(b); ok || n != 0 || len(got) != 0 {
		t.Errorf("Take of %d bytes, %x..: %d bytes, %d, %v", len(b), b[:min(len(b), 8)], len(got), n, ok)
	}
}

func TestTakeOfNone(t *testing.T) {
	for _, b := range [][]byte{
		nil, {}, // nothing
		{0}, {0, 0}, {0, 1, 0}, {0, 8, 8, 8}, // a number of no bytes
		{1}, {2}, {2, 1}, {3, 1, 0}, {4, 1, 0, 0}, {255}, // the number is not all there
		{2, 0, 0}, {2, 0, 8, 7}, {2, 0, 255, 1}, {3, 0, 0, 8, 7}, {4, 0, 0, 0, 8, 7}, {4, 0, 0, 0, 0}, // more bytes than it must have
		{1, 1, 7}, {1, 2, 7}, {1, 4, 7}, {1, 7, 7}, {1, 9, 7, 7}, {1, 12, 7, 7}, {1, 15, 7, 7}, // no multiple of 8
		{1, 8}, {1, 16, 7}, {1, 24, 7, 7}, {2, 1, 0}, // the string is not all there
		{4, 255, 255, 255, 248, 7}, {4, 255, 255, 255, 255, 7}, {4, 128, 0, 0, 0, 7},
	} {
		refused(t, b)
	}
	for _, number := range []byte{1, 4, 7, 9, 252, 255} {
		refused(t, append([]byte{2, 1, number}, make([]byte, 100)...))
	}
	for count := 5; count < 256; count++ {
		short := make([]byte, 300)
		short[0] = byte(count)
		refused(t, short)
		short[count] = 8
		refused(t, short)
		short[1] = 1
		refused(t, short)
		short[1] = 255
		refused(t, short)
	}
}

// TestTakeOfTooLong: the string is there, but its number has 5 bytes; then the number has 4, but the string's last byte isn't there.
func TestTakeOfTooLong(t *testing.T) {
	const length = 1 << 29
	long := make([]byte, 6+length)
	copy(long, []byte{5, 1})
	refused(t, long)
	if got, ok := code.Split(long); ok || len(got) != 0 {
		t.Errorf("Split of it: %d strings, %v", len(got), ok)
	}
	copy(long, []byte{4, 255, 255, 255, 248})
	refused(t, long[:5+length-2])
}

// TestTakeOfCutStrings: up to its last byte, no string is there.
func TestTakeOfCutStrings(t *testing.T) {
	for _, n := range []int{0, 1, 31, 32, 33, 200} {
		b := code.Str(scattered(n, 5))
		for end := range b {
			refused(t, b[:end])
		}
	}
	for _, n := range []int{8191, 8192, 1 << 21} {
		b := code.Str(scattered(n, 6))
		refused(t, b[:len(b)-1])
	}
}

// taken is what bytes begin with, looked for the long way: of all strings that could be there, the one that, put, is what they begin with.
func taken(b []byte) ([]byte, int, bool) {
	for begin := range min(len(b)+1, 6) {
		for end := begin; end <= len(b); end++ {
			if bytes.Equal(put(b[begin:end]), b[:end]) {
				return b[begin:end], end, true
			}
		}
	}
	return nil, 0, false
}

// rows is each row of n bytes of an alphabet.
func rows(n int, alphabet []byte) [][]byte {
	if n == 0 {
		return [][]byte{nil}
	}
	var out [][]byte
	for _, row := range rows(n-1, alphabet) {
		for _, last := range alphabet {
			out = append(out, append(bytes.Clone(row), last))
		}
	}
	return out
}

// all is each byte.
func all() []byte {
	out := make([]byte, 256)
	for i := range out {
		out[i] = byte(i)
	}
	return out
}

// some is short rows of bytes: all up to two, and those of bytes that mean something ahead of a string.
func some() [][]byte {
	var out [][]byte
	for n := range 3 {
		out = append(out, rows(n, all())...)
	}
	for n := 3; n <= 6; n++ {
		out = append(out, rows(n, []byte{0, 1, 2, 3, 8, 16, 24})...)
	}
	return out
}

func TestTakeOfShortRows(t *testing.T) {
	for _, b := range some() {
		want, length, there := taken(b)
		got, n, ok := code.Take(b)
		if ok != there || n != length || !bytes.Equal(got, want) {
			t.Fatalf("Take(%v) = %v, %d, %v", b, got, n, ok)
		}
	}
}

// TestJoinOfTheStandard: as the standard's samples of TupleHash tell it.
func TestJoinOfTheStandard(t *testing.T) {
	got := code.Join(decoded(t, "000102"), decoded(t, "101112131415"))
	if !bytes.Equal(got, decoded(t, "01 18 00 01 02 01 30 10 11 12 13 14 15")) {
		t.Errorf("Join of the first sample: %x", got)
	}
	got = code.Join(decoded(t, "000102"), decoded(t, "101112131415"), decoded(t, "202122232425262728"))
	if !bytes.Equal(got, decoded(t, "01 18 00 01 02 01 30 10 11 12 13 14 15 01 48 20 21 22 23 24 25 26 27 28")) {
		t.Errorf("Join of the third sample: %x", got)
	}
}

func TestJoin(t *testing.T) {
	if got := code.Join(); len(got) != 0 {
		t.Errorf("Join of nothing: %x", got)
	}
	if got := code.Join(nil...); len(got) != 0 {
		t.Errorf("Join of no list: %x", got)
	}
	if got := code.Join(nil); !bytes.Equal(got, []byte{1, 0}) {
		t.Errorf("Join of one string of nothing: %x", got)
	}
	if got := code.Join(nil, []byte{}, nil); !bytes.Equal(got, []byte{1, 0, 1, 0, 1, 0}) {
		t.Errorf("Join of three strings of nothing: %x", got)
	}
	var l [][]byte
	var want []byte
	for i, n := range lengths() {
		l = append(l, scattered(n, uint64(i)))
		want = append(want, put(l[i])...)
		if !bytes.Equal(code.Join(l...), want) {
			t.Fatalf("Join of %d strings", len(l))
		}
	}
}

// alike tells whether two rows of strings are.
func alike(a, b [][]byte) bool {
	if len(a) != len(b) {
		return false
	}
	for i := range a {
		if !bytes.Equal(a[i], b[i]) {
			return false
		}
	}
	return true
}

func TestSplit(t *testing.T) {
	for _, row := range []struct {
		b    []byte
		want [][]byte
	}{
		{nil, nil},
		{[]byte{}, nil},
		{[]byte{1, 0}, [][]byte{nil}},
		{[]byte{1, 0, 1, 0}, [][]byte{nil, nil}},
		{[]byte{1, 8, 7}, [][]byte{{7}}},
		{[]byte{1, 8, 7, 1, 0, 1, 16, 1, 0}, [][]byte{{7}, nil, {1, 0}}},
	} {
		if got, ok := code.Split(row.b); !ok || !alike(got, row.want) {
			t.Errorf("Split(%v) = %v, %v", row.b, got, ok)
		}
	}
}

func TestSplitOfNone(t *testing.T) {
	for _, b := range [][]byte{
		{0}, {1}, {1, 0, 0}, {1, 0, 1}, {1, 8}, {1, 8, 7, 7}, {1, 8, 7, 1}, {1, 8, 7, 1, 8}, {1, 0, 2, 0, 0},
		{1, 8, 7, 1, 0, 1, 9, 1, 0}, {0, 1, 0}, {1, 0, 1, 0, 1, 0, 0},
	} {
		if got, ok := code.Split(b); ok || len(got) != 0 {
			t.Errorf("Split(%v) = %v, %v", b, got, ok)
		}
	}
}

// TestSplitOfShortRows: what is split is what, joined, are these bytes; and nothing else is split.
func TestSplitOfShortRows(t *testing.T) {
	for _, b := range some() {
		var want [][]byte
		rest := b
		for len(rest) > 0 {
			s, n, ok := taken(rest)
			if !ok {
				break
			}
			want, rest = append(want, s), rest[n:]
		}
		got, ok := code.Split(b)
		if ok != (len(rest) == 0) || ok && !alike(got, want) || !ok && len(got) != 0 {
			t.Fatalf("Split(%v) = %v, %v", b, got, ok)
		}
		if ok && !bytes.Equal(code.Join(got...), b) {
			t.Fatalf("Split(%v) = %v, which is joined otherwise", b, got)
		}
	}
}

// --- P14.3 ---

// TestPutIsTaken: whatever stands behind it, even what could be strings.
func TestPutIsTaken(t *testing.T) {
	for _, n := range lengths() {
		s := scattered(n, uint64(n)+1)
		for _, more := range [][]byte{nil, {0}, {1, 0}, {255, 255, 255}, scattered(300, 9), put(scattered(40, 8))} {
			b := append(code.Str(s), more...)
			got, length, ok := code.Take(b)
			if !ok || length != len(b)-len(more) || !bytes.Equal(got, s) {
				t.Errorf("Take of a string of %d bytes ahead of %d: %d, %v", n, len(more), length, ok)
			}
		}
	}
}

// TestStringsAreNotTakenForOthers: of all short rows of short strings no two are put alike, and each is split into what it was.
func TestStringsAreNotTakenForOthers(t *testing.T) {
	var words [][]byte
	for n := range 4 {
		words = append(words, rows(n, []byte{0, 1, 8})...)
	}
	lists := [][][]byte{nil}
	for begin, n := 0, 0; n < 3; n++ {
		end := len(lists)
		for _, list := range lists[begin:end] {
			for _, word := range words {
				lists = append(lists, append(list[:len(list):len(list)], word))
			}
		}
		begin = end
	}
	known := map[string]int{}
	for at, list := range lists {
		b := code.Join(list...)
		if before, ok := known[string(b)]; ok {
			t.Fatalf("%v and %v are put alike", lists[before], list)
		}
		known[string(b)] = at
		if got, ok := code.Split(b); !ok || !alike(got, list) {
			t.Fatalf("Split(Join(%v)) = %v, %v", list, got, ok)
		}
	}
}

func TestLongStringsAreSplit(t *testing.T) {
	var l [][]byte
	for i, n := range lengths() {
		l = append(l, scattered(n, uint64(i)+70))
	}
	if got, ok := code.Split(code.Join(l...)); !ok || !alike(got, l) {
		t.Errorf("Split of %d strings: %d, %v", len(l), len(got), ok)
	}
	many := make([][]byte, 100000)
	for i := range many {
		many[i] = scattered(i%5, uint64(i))
	}
	if got, ok := code.Split(code.Join(many...)); !ok || !alike(got, many) {
		t.Errorf("Split of %d strings: %d, %v", len(many), len(got), ok)
	}
}

// absorbed is the state that blocks of bytes come to by Keccak.
func absorbed(b []byte, rate int) [25]uint64 {
	var out [25]uint64
	for len(b) > 0 {
		for at := range rate / 8 {
			out[at] ^= binary.LittleEndian.Uint64(b[8*at:])
		}
		out, b = keccak.Permute(out), b[rate:]
	}
	return out
}

// kept is what the library keeps of a named hash at work: the state's bytes, and behind two numbers what it was named by.
func kept(t *testing.T, s *sha3.SHAKE) (state, name []byte) {
	t.Helper()
	b, err := s.MarshalBinary()
	if err != nil {
		t.Fatal(err)
	}
	if len(b) < 4+1+200+2 {
		t.Skip("the library keeps a hash in another form")
	}
	return b[5:205], b[207:]
}

// TestNamesOfTheLibrary: its named hashes begin with two strings, put and padded.
func TestNamesOfTheLibrary(t *testing.T) {
	for _, n := range []int{0, 1, 4, 31, 32, 100, 200, 9000} {
		for _, m := range []int{1, 15, 31, 32, 130, 131, 132, 162, 163, 164, 165, 500} {
			name, custom := scattered(n, 3), scattered(m, 4)
			for rate, s := range map[int]*sha3.SHAKE{168: sha3.NewCSHAKE128(name, custom), 136: sha3.NewCSHAKE256(name, custom)} {
				state, begin := kept(t, s)
				joined := code.Join(name, custom)
				if len(begin) != 0 && !bytes.Equal(begin, joined) {
					t.Fatalf("Join of %d and %d bytes is not the library's", n, m)
				}
				padded, e := code.Pad(joined, rate)
				if e != api.OK || len(padded)%rate != 0 {
					t.Fatalf("Pad of %d and %d bytes to %d: %d bytes, %d", n, m, rate, len(padded), e)
				}
				for at, word := range absorbed(padded, rate) {
					if binary.LittleEndian.Uint64(state[8*at:]) != word {
						t.Fatalf("Pad of %d and %d bytes to %d is not the library's", n, m, rate)
					}
				}
			}
		}
	}
}

// --- What holds everywhere ---

func TestArgumentsAreLeft(t *testing.T) {
	whole := scattered(300, 11)
	before := bytes.Clone(whole)
	part := whole[100:150]
	code.Str(part)
	code.Pad(part, 168)
	code.Pad(part, 1)
	code.Join(part, part[:0], part[3:9])
	code.Take(part)
	code.Split(part)
	if !bytes.Equal(whole, before) {
		t.Error("what was given has changed")
	}
	whole = append(code.Str(scattered(20, 1)), 1, 0, 77)
	before = bytes.Clone(whole)
	code.Take(whole[:22])
	code.Split(whole[:24])
	if !bytes.Equal(whole, before) {
		t.Error("what was taken and split has changed")
	}
	l := [][]byte{{1}, {2}, {3}, {4}}
	code.Join(l[:2]...)
	if !alike(l, [][]byte{{1}, {2}, {3}, {4}}) {
		t.Error("the list that was joined has changed")
	}
}

// TestBehindLengths: what lies behind a list's length is no part of it.
func TestBehindLengths(t *testing.T) {
	whole := code.Str([]byte{5, 6, 7})
	refused(t, whole[:4])
	refused(t, whole[:1])
	if got, ok := code.Split(whole[:4]); ok || len(got) != 0 {
		t.Errorf("Split of a cut string: %v, %v", got, ok)
	}
	if got := code.Str(whole[:1]); !bytes.Equal(got, []byte{1, 8, 1}) {
		t.Errorf("Str of the first byte: %v", got)
	}
	if got, e := code.Pad(whole[:1], 2); e != api.OK || !bytes.Equal(got, []byte{1, 2, 1, 0}) {
		t.Errorf("Pad of the first byte: %v, %d", got, e)
	}
}

// spoiled fills a list up to its capacity, and so all that it could share with others.
func spoiled(b []byte) {
	b = b[:cap(b)]
	for i := range b {
		b[i] ^= 0xff
	}
}

func TestAnswersAreNew(t *testing.T) {
	whole := code.Join([]byte{1, 2}, nil, []byte{3}, scattered(40, 2))
	before := bytes.Clone(whole)
	s, _, _ := code.Take(whole)
	spoiled(s)
	l, ok := code.Split(whole)
	if !ok || len(l) != 4 {
		t.Fatalf("Split: %v, %v", l, ok)
	}
	for at := range l {
		want, _ := code.Split(before)
		spoiled(l[at])
		for other := range l {
			if other > at && !bytes.Equal(l[other], want[other]) {
				t.Errorf("strings %d and %d share memory", at, other)
			}
		}
	}
	b := before
	padded, _ := code.Pad(b, 1)
	spoiled(padded)
	spoiled(code.Str(b))
	spoiled(code.Join(b, b))
	spoiled(code.Left(7))
	spoiled(code.Right(7))
	if !bytes.Equal(whole, before) || !bytes.Equal(code.Left(7), []byte{1, 7}) || !bytes.Equal(code.Right(7), []byte{7, 1}) {
		t.Error("an answer shares memory with what was given, or with a later one")
	}
}

func TestManyAskersAtOnce(t *testing.T) {
	l := [][]byte{scattered(40, 1), nil, scattered(9000, 2)}
	joined := code.Join(l...)
	var group sync.WaitGroup
	for range 8 {
		group.Go(func() {
			for range 20 {
				got, ok := code.Split(joined)
				if !ok || !alike(got, l) || !bytes.Equal(code.Join(l...), joined) {
					t.Error("strings that many ask for at once")
				}
				if b, e := code.Pad(l[0], 168); e != api.OK || len(b) != 168 {
					t.Error("a pad that many ask for at once")
				}
			}
		})
	}
	group.Wait()
}
