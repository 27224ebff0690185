package kmac_test

import (
	"bytes"
	"crypto/sha3"
	"encoding/hex"
	"math"
	"math/big"
	"slices"
	"strings"
	"sync"
	"testing"

	"visor/api"
	"visor/code"
	"visor/kmac"
	"visor/sponge"
)

// most is how many bytes a tag has, at most, as the chapter writes it.
const most = 65536

// scattered is n bytes, such as a rule of numbers scatters.
func scattered(n int, seed uint64) []byte {
	out := make([]byte, n)
	for i := range out {
		seed = seed*6364136223846793005 + 1442695040888963407
		out[i] = byte(seed >> 56)
	}
	return out
}

// counting is the bytes from a number on, n of them.
func counting(from, n int) []byte {
	out := make([]byte, n)
	for i := range out {
		out[i] = byte(from + i)
	}
	return out
}

// decoded is bytes that are written as hexadecimal digits, with blanks.
func decoded(t *testing.T, text string) []byte {
	t.Helper()
	b, err := hex.DecodeString(strings.ReplaceAll(text, " ", ""))
	if err != nil {
		t.Fatal(err)
	}
	return b
}

// numbers is both numbers of which there are tags.
func numbers() []int { return []int{128, 256} }

// rateOf is how many bytes a padded key is a multiple of, written out.
func rateOf(bits int) int { return map[int]int{128: 168, 256: 136}[bits] }

// notNumbers is numbers of which there are no tags, those of other hashes first.
func notNumbers() []int {
	out := []int{224, 384, 512, math.MinInt, math.MinInt32, math.MaxInt32, math.MaxInt, -128, -256, 1<<32 + 128, 1<<40 + 256, math.MinInt + 128}
	for n := -20; n <= 1100; n++ {
		if n != 128 && n != 256 {
			out = append(out, n)
		}
	}
	return out
}

// counts is numbers of bytes that no tag has; times 8, some of them come round to numbers that are small again.
func counts() []int {
	return []int{
		-1, -2, -8, -32, -most, most + 1, most + 2, 2 * most, 1 << 20, math.MinInt32, math.MaxInt32, math.MinInt, math.MaxInt,
		1 << 61, 1<<61 + 32, 1 << 62, 1<<62 + 64, 1<<32 + 32, math.MinInt + 32,
	}
}

// sizes is some lengths about blocks' ends.
func sizes(rate int) []int {
	return []int{0, 1, 7, 8, 31, 32, 33, rate - 5, rate - 4, rate - 1, rate, rate + 1, 2*rate - 1, 2 * rate, 2*rate + 1, 500}
}

// digits is a number's bytes, by long numbers: 0 has one too.
func digits(n int) []byte {
	if n == 0 {
		return []byte{0}
	}
	return big.NewInt(int64(n)).Bytes()
}

// padded is a key, put and padded, byte by byte as the chapters say.
func padded(rate int, key []byte) []byte {
	out := append([]byte{1}, digits(rate)...)
	length := digits(8 * len(key))
	out = append(out, byte(len(length)))
	out = append(out, length...)
	out = append(out, key...)
	for len(out)%rate != 0 {
		out = append(out, 0)
	}
	return out
}

// library is a tag by the library's named hash, all else told byte by byte.
func library(bits int, key, m, custom []byte, n int, free bool) []byte {
	h := sha3.NewCSHAKE256([]byte{'K', 'M', 'A', 'C'}, custom)
	if bits == 128 {
		h = sha3.NewCSHAKE128([]byte{'K', 'M', 'A', 'C'}, custom)
	}
	length := digits(8 * n)
	if free {
		length = digits(0)
	}
	h.Write(padded(rateOf(bits), key))
	h.Write(m)
	h.Write(length)
	h.Write([]byte{byte(len(length))})
	out := make([]byte, n)
	h.Read(out)
	return out
}

// head is a key as it stands ahead, of a number that must be one.
func head(t *testing.T, bits int, key []byte) []byte {
	t.Helper()
	out, e := kmac.Head(bits, key)
	if e != api.OK {
		t.Fatalf("Head of %d and %d bytes: %d", bits, len(key), e)
	}
	return out
}

// sum is a tag, where nothing may be amiss.
func sum(t *testing.T, bits int, key, m, custom []byte, n int, free bool) []byte {
	t.Helper()
	out, e := kmac.Sum(bits, key, m, custom, n, free)
	if e != api.OK || len(out) != n {
		t.Fatalf("Sum of %d, and %d, %d and %d bytes, in %d, %t: %d bytes, %d", bits, len(key), len(m), len(custom), n, free, len(out), e)
	}
	return out
}

// refused tells of an answer that should be ErrArg, and no bytes.
func refused(t *testing.T, b []byte, e api.Errno, what ...any) {
	t.Helper()
	if e != api.ErrArg || len(b) != 0 {
		t.Errorf("%v: %d bytes, %d", what, len(b), e)
	}
}

// likeTheLibrary wants a tag to be the library's, of that length and of a free one, and to be said.
func likeTheLibrary(t *testing.T, bits int, key, m, custom []byte, n int) {
	t.Helper()
	for _, free := range []bool{false, true} {
		want := library(bits, key, m, custom, n, free)
		if got := sum(t, bits, key, m, custom, n, free); !bytes.Equal(got, want) {
			t.Fatalf("Sum of %d, and %d, %d and %d bytes, in %d, %t: not the library's", bits, len(key), len(m), len(custom), n, free)
		}
	}
	if got := kmac.Says(bits, key, m, custom, library(bits, key, m, custom, n, false)); got != (n > 0) {
		t.Fatalf("Says of %d, and %d, %d and %d bytes, and the tag of %d: %t", bits, len(key), len(m), len(custom), n, got)
	}
}

// --- P16.1 ---

// TestHeadOfTheStandard: as the samples of KMAC print it.
func TestHeadOfTheStandard(t *testing.T) {
	key := counting(64, 32)
	want := decoded(t, "01 a8 02 01 00 40 41 42 43 44 45 46 47 48 49 4a 4b 4c 4d 4e 4f 50 51 52 53 54 55 56 57 58 59 5a 5b 5c 5d 5e 5f")
	want = append(want, make([]byte, 168-len(want))...)
	if got := head(t, 128, key); !bytes.Equal(got, want) {
		t.Errorf("Head of 128: %x", got)
	}
	want[1] = 136
	if got := head(t, 256, key); !bytes.Equal(got, want[:136]) {
		t.Errorf("Head of 256: %x", got)
	}
}

func TestHeadOfNoKey(t *testing.T) {
	for _, bits := range numbers() {
		rate := rateOf(bits)
		want := make([]byte, rate)
		copy(want, []byte{1, byte(rate), 1, 0})
		for _, key := range [][]byte{nil, {}} {
			if got := head(t, bits, key); !bytes.Equal(got, want) {
				t.Errorf("Head of %d and no key: %x", bits, got)
			}
		}
	}
}

func TestHeadOfAllLengths(t *testing.T) {
	for _, bits := range numbers() {
		rate := rateOf(bits)
		// Of 32, 8192 and 2097152 bytes on, the key's length in bits has a byte more.
		lengths := []int{8191, 8192, 8193, 1<<21 - 1, 1 << 21, 1<<21 + 1}
		for n := range 3*rate + 2 {
			lengths = append(lengths, n)
		}
		for _, n := range lengths {
			key := scattered(n, 1)
			got := head(t, bits, key)
			if want := padded(rate, key); !bytes.Equal(got, want) {
				t.Fatalf("Head of %d and %d bytes: %d bytes, not %d, or others", bits, n, len(got), len(want))
			}
		}
	}
}

// TestHeadIsPutAndPadded: from what stands ahead, the key can be told.
func TestHeadIsPutAndPadded(t *testing.T) {
	for _, bits := range numbers() {
		for _, n := range sizes(rateOf(bits)) {
			key := scattered(n, 2)
			got := head(t, bits, key)
			if len(got)%rateOf(bits) != 0 || got[0] != 1 || int(got[1]) != rateOf(bits) {
				t.Fatalf("Head of %d and %d bytes is not padded: %x", bits, n, got)
			}
			taken, size, ok := code.Take(got[2:])
			if !ok || !bytes.Equal(taken, key) {
				t.Fatalf("Head of %d and %d bytes does not tell the key", bits, n)
			}
			behind := got[2+size:]
			if len(behind) >= rateOf(bits) || !bytes.Equal(behind, make([]byte, len(behind))) {
				t.Fatalf("Head of %d and %d bytes has %x behind the key", bits, n, behind)
			}
		}
	}
}

func TestHeadOfOtherNumbers(t *testing.T) {
	for _, bits := range notNumbers() {
		for _, key := range [][]byte{nil, counting(64, 32)} {
			b, e := kmac.Head(bits, key)
			refused(t, b, e, "Head", bits, len(key))
		}
	}
}

// sample is a row of what is printed of tags of Keccak, with the key 64, 65, .. 95: of its length, and of a free one.
type sample struct {
	bits        int
	size        int
	custom      string
	fixed, free string
}

func samples() []sample {
	return []sample{
		{128, 4, "",
			"e5780b0d3ea6f7d3a429c5706aa43a00fadbd7d49628839e3187243f456ee14e",
			"cd83740bbd92ccc8cf032b1481a0f4460e7ca9dd12b08a0c4031178bacd6ec35"},
		{128, 4, "My Tagged Application",
			"3b1fba963cd8b0b59e8c1a6d71888b7143651af8ba0a7070c0979e2811324aa5",
			"31a44527b4ed9f5c6101d11de6d26f0620aa5c341def41299657fe9df1a3b16c"},
		{128, 200, "My Tagged Application",
			"1f5b4e6cca02209e0dcb5ca635b89a15e271ecc760071dfd805faa38f9729230",
			"47026c7cd793084aa0283c253ef658490c0db61438b8326fe9bddf281b83ae0f"},
		{256, 4, "My Tagged Application",
			"20c570c31346f703c9ac36c61c03cb64c3970d0cfc787e9b79599d273a68d2f7f69d4cc3de9d104a351689f27cf6f5951f0103f33f4f24871024d9c27773a8dd",
			"1755133f1534752aad0748f2c706fb5c784512cab835cd15676b16c0c6647fa96faa7af634a0bf8ff6df39374fa00fad9a39e322a7c92065a64eb1fb0801eb2b"},
		{256, 200, "",
			"75358cf39e41494e949707927cee0af20a3ff553904c86b08f21cc414bcfd691589d27cf5e15369cbbff8b9a4c2eb17800855d0235ff635da82533ec6b759b69",
			"ff7b171f1e8a2b24683eed37830ee797538ba8dc563f6da1e667391a75edc02ca633079f81ce12a25f45615ec89972031d18337331d24ceb8f8ca8e6a19fd98b"},
		{256, 200, "My Tagged Application",
			"b58618f71f92e1d56c1b8c55ddd7cd188b97b4ca4d99831eb2699a837da2e4d970fbacfde50033aea585f1a2708510c32d07880801bd182898fe476876fc8965",
			"d5be731c954ed7732846bb59dbe3a8e30f83e77a4bff4459f2f1c2b4ecebb8ce67ba01c62e8ab8578d2d499bd1bb276768781190020a306a97de281dcc30305d"},
	}
}

func TestTagsOfTheStandard(t *testing.T) {
	key := counting(64, 32)
	for i, s := range samples() {
		m, custom := counting(0, s.size), []byte(s.custom)
		fixed, free := decoded(t, s.fixed), decoded(t, s.free)
		if got := sum(t, s.bits, key, m, custom, len(fixed), false); !bytes.Equal(got, fixed) {
			t.Errorf("sample %d: %x", i, got)
		}
		if got := sum(t, s.bits, key, m, custom, len(free), true); !bytes.Equal(got, free) {
			t.Errorf("sample %d, of a free length: %x", i, got)
		}
		if !kmac.Says(s.bits, key, m, custom, fixed) {
			t.Errorf("sample %d is not said", i)
		}
		if kmac.Says(s.bits, key, m, custom, free) {
			t.Errorf("sample %d, of a free length, is said", i)
		}
	}
}

func TestTagsAreTheLibrarys(t *testing.T) {
	for _, bits := range numbers() {
		list := []int{0, 1, 31, 32, rateOf(bits) - 5, rateOf(bits), 300}
		for _, k := range list {
			for _, size := range list {
				for _, s := range list {
					seed := uint64(k + 1000*size + 1000000*s)
					likeTheLibrary(t, bits, scattered(k, seed), scattered(size, seed+1), scattered(s, seed+2), 40)
				}
			}
		}
	}
}

func TestTagsAreTheLibrarysOverAllSizes(t *testing.T) {
	for _, bits := range numbers() {
		for n := range 2*rateOf(bits) + 10 {
			likeTheLibrary(t, bits, scattered(n, 3), scattered(20, 4), scattered(5, 5), 32)
			likeTheLibrary(t, bits, scattered(32, 6), scattered(n, 7), scattered(5, 8), 32)
			likeTheLibrary(t, bits, scattered(32, 9), scattered(20, 10), scattered(n, 11), 32)
			likeTheLibrary(t, bits, scattered(32, 12), scattered(20, 13), scattered(5, 14), n)
		}
	}
}

// TestTagsOfLongLengths: of 32 and of 8192 bytes on, a tag's length in bits has a byte more.
func TestTagsOfLongLengths(t *testing.T) {
	for _, bits := range numbers() {
		for _, n := range []int{31, 32, 255, 256, 257, 8190, 8191, 8192, 8193, most/2 - 1, most / 2, most - 1, most} {
			likeTheLibrary(t, bits, scattered(32, 15), scattered(20, 16), nil, n)
		}
	}
}

func TestTagsOfMuch(t *testing.T) {
	for _, bits := range numbers() {
		// Only of the tag the length is bound.
		likeTheLibrary(t, bits, scattered(most+1, 17), scattered(most+2, 18), scattered(most+3, 19), 33)
		likeTheLibrary(t, bits, scattered(32, 20), scattered(1<<20, 21), nil, 33)
		likeTheLibrary(t, bits, scattered(1<<18, 22), nil, nil, 33)
	}
}

func TestTagsOfNothing(t *testing.T) {
	for _, bits := range numbers() {
		for _, none := range [][]byte{nil, {}} {
			likeTheLibrary(t, bits, none, none, none, 32)
			for _, free := range []bool{false, true} {
				if got := sum(t, bits, none, none, none, 0, free); len(got) != 0 {
					t.Errorf("a tag of 0 bytes of %d: %x", bits, got)
				}
			}
		}
	}
}

// TestATagIsANamedHash: what is hashed by the name KMAC is the head, the message, and the length.
func TestATagIsANamedHash(t *testing.T) {
	for _, bits := range numbers() {
		for _, size := range sizes(rateOf(bits)) {
			key, m, custom := scattered(size, 23), scattered(size+3, 24), scattered(size/2, 25)
			for _, n := range []int{1, 31, 32, 200, 8192} {
				for _, free := range []bool{false, true} {
					length := code.Right(8 * n)
					if free {
						length = []byte{0, 1}
					}
					want, e := sponge.Named(bits, []byte("KMAC"), custom, slices.Concat(head(t, bits, key), m, length), n)
					if got := sum(t, bits, key, m, custom, n, free); e != api.OK || !bytes.Equal(got, want) {
						t.Fatalf("Sum of %d, and %d bytes, in %d, %t: %x, not %x", bits, size, n, free, got, want)
					}
				}
			}
		}
	}
}

func TestSumOfOtherNumbers(t *testing.T) {
	for _, bits := range notNumbers() {
		for _, free := range []bool{false, true} {
			for _, n := range []int{0, 1, 32, most, -1, most + 1} {
				b, e := kmac.Sum(bits, counting(64, 32), counting(0, 4), nil, n, free)
				refused(t, b, e, "Sum", bits, n, free)
				b, e = kmac.Sum(bits, nil, nil, nil, n, free)
				refused(t, b, e, "Sum of nothing", bits, n, free)
			}
		}
	}
}

func TestSumOfOtherCounts(t *testing.T) {
	for _, bits := range numbers() {
		for _, n := range counts() {
			for _, free := range []bool{false, true} {
				b, e := kmac.Sum(bits, counting(64, 32), counting(0, 4), []byte("c"), n, free)
				refused(t, b, e, "Sum", bits, n, free)
				b, e = kmac.Sum(bits, nil, nil, nil, n, free)
				refused(t, b, e, "Sum of nothing", bits, n, free)
			}
		}
	}
}

// TestAllOfATagCounts: what is cut off one part and put to another, and each other number, length and kind, makes another tag.
func TestAllOfATagCounts(t *testing.T) {
	seen := map[string]int{}
	rows := [][3]string{
		{"", "", ""}, {"a", "", ""}, {"", "a", ""}, {"", "", "a"}, {"a", "b", "c"}, {"ab", "", "c"}, {"ab", "c", ""}, {"a", "bc", ""},
		{"", "abc", ""}, {"", "ab", "c"}, {"", "a", "bc"}, {"a", "", "bc"}, {"", "", "abc"}, {"abc", "", ""}, {"c", "b", "a"}, {"b", "a", "c"},
		{"a\x00", "b", "c"}, {"a", "\x00b", "c"}, {"a", "b\x00", "c"}, {"a", "b", "c\x00"}, {"a", "b", "\x00c"}, {"\x00a", "b", "c"},
		{"a", "b\x01", "c"}, {"a", "b\x01\x00\x02", "c"}, {"a", "b\x00\x01", "c"}, {"a", "b", "KMAC"}, {"KMAC", "b", "c"},
	}
	for at, row := range rows {
		for _, bits := range numbers() {
			for _, n := range []int{31, 32, 33} {
				for _, free := range []bool{false, true} {
					if free && n > 31 {
						continue
					}
					// The first bytes alone are told apart, so that it is not their number that does it.
					tag := string(sum(t, bits, []byte(row[0]), []byte(row[1]), []byte(row[2]), n, free)[:31])
					if before, ok := seen[tag]; ok {
						t.Errorf("the rows %d and %d have one tag, of %d, %d and %t", before, at, bits, n, free)
					}
					seen[tag] = at
				}
			}
		}
	}
}

// --- P16.2 ---

func TestSaysOfEachLength(t *testing.T) {
	for _, bits := range numbers() {
		key, m, custom := scattered(32, 26), scattered(50, 27), scattered(6, 28)
		for n := 1; n <= 300; n++ {
			tag := library(bits, key, m, custom, n, false)
			if !kmac.Says(bits, key, m, custom, tag) {
				t.Errorf("Says of %d, and the tag of %d: false", bits, n)
			}
		}
	}
}

func TestSaysOfTheLongest(t *testing.T) {
	for _, bits := range numbers() {
		key, m := scattered(32, 29), scattered(50, 30)
		tag := library(bits, key, m, nil, most, false)
		if !kmac.Says(bits, key, m, nil, tag) {
			t.Errorf("Says of %d, and the tag of %d: false", bits, most)
		}
		tag[most-1] ^= 1
		if kmac.Says(bits, key, m, nil, tag) {
			t.Errorf("Says of %d, and the tag of %d with another bit: true", bits, most)
		}
		// There is no tag so long, though the hash would have such bytes.
		for _, n := range []int{most + 1, most + 8, 2 * most} {
			if kmac.Says(bits, key, m, nil, library(bits, key, m, nil, n, false)) {
				t.Errorf("Says of %d, and a tag of %d: true", bits, n)
			}
		}
	}
}

func TestSaysOfNoBytes(t *testing.T) {
	for _, bits := range append(numbers(), notNumbers()...) {
		for _, tag := range [][]byte{nil, {}, make([]byte, 0, 40)} {
			if kmac.Says(bits, scattered(32, 31), scattered(5, 32), nil, tag) || kmac.Says(bits, nil, nil, nil, tag) {
				t.Errorf("Says of %d, and a tag of no bytes: true", bits)
			}
		}
	}
}

func TestSaysOfAnotherBit(t *testing.T) {
	for _, bits := range numbers() {
		key, m, custom := scattered(32, 33), scattered(20, 34), scattered(3, 35)
		for _, n := range []int{1, 2, 4, 16, 32, 64, 200} {
			tag := library(bits, key, m, custom, n, false)
			for bit := range 8 * n {
				wrong := bytes.Clone(tag)
				wrong[bit/8] ^= 1 << (bit % 8)
				if kmac.Says(bits, key, m, custom, wrong) {
					t.Fatalf("Says of %d, and the tag of %d with another bit %d: true", bits, n, bit)
				}
			}
		}
	}
}

// TestSaysOfAllShortTags: of one byte there is one right tag, and no other.
func TestSaysOfAllShortTags(t *testing.T) {
	for _, bits := range numbers() {
		for seed := range uint64(10) {
			key, m := scattered(16, 36+seed), scattered(9, 37+seed)
			right := library(bits, key, m, nil, 1, false)[0]
			for b := range 256 {
				if got := kmac.Says(bits, key, m, nil, []byte{byte(b)}); got != (byte(b) == right) {
					t.Errorf("Says of %d, and %d, where %d is right: %t", bits, b, right, got)
				}
			}
		}
	}
}

// TestSaysOfTagsThatAreCut: a tag hangs on its length, so that what is cut off one, or put to it, is none.
func TestSaysOfTagsThatAreCut(t *testing.T) {
	for _, bits := range numbers() {
		key, m, custom := scattered(32, 38), scattered(20, 39), scattered(3, 40)
		tag := library(bits, key, m, custom, 64, false)
		// Shorter cuts could be right by chance.
		for n := 8; n < 64; n++ {
			if kmac.Says(bits, key, m, custom, tag[:n]) || kmac.Says(bits, key, m, custom, tag[64-n:]) {
				t.Errorf("Says of %d, and %d bytes of a tag of 64: true", bits, n)
			}
		}
		for _, more := range []int{1, 2, 8, 64} {
			longer := append(bytes.Clone(tag), make([]byte, more)...)
			if kmac.Says(bits, key, m, custom, longer) || kmac.Says(bits, key, m, custom, library(bits, key, m, custom, 64+more, false)[more:]) {
				t.Errorf("Says of %d, and a tag of 64 and %d bytes: true", bits, more)
			}
		}
	}
}

func TestSaysOfFreeTags(t *testing.T) {
	for _, bits := range numbers() {
		key, m, custom := scattered(32, 41), scattered(20, 42), scattered(3, 43)
		for n := 8; n <= 100; n++ {
			if kmac.Says(bits, key, m, custom, library(bits, key, m, custom, n, true)) {
				t.Errorf("Says of %d, and a free tag of %d: true", bits, n)
			}
		}
	}
}

// others is bytes that differ from some: by a bit, by a byte more, and by one fewer.
func others(b []byte) [][]byte {
	out := [][]byte{append(bytes.Clone(b), 0), append([]byte{0}, b...), slices.Concat(b, b), b[1:], b[:len(b)-1], nil}
	for bit := range 8 * len(b) {
		wrong := bytes.Clone(b)
		wrong[bit/8] ^= 1 << (bit % 8)
		out = append(out, wrong)
	}
	return out
}

func TestSaysOfOthers(t *testing.T) {
	for _, bits := range numbers() {
		key, m, custom := scattered(16, 44), scattered(20, 45), scattered(9, 46)
		tag := library(bits, key, m, custom, 32, false)
		if kmac.Says(384-bits, key, m, custom, tag) {
			t.Errorf("Says of another number than %d: true", bits)
		}
		for i, wrong := range others(key) {
			if kmac.Says(bits, wrong, m, custom, tag) {
				t.Errorf("Says of %d, and the wrong key %d: true", bits, i)
			}
		}
		for i, wrong := range others(m) {
			if kmac.Says(bits, key, wrong, custom, tag) {
				t.Errorf("Says of %d, and the wrong message %d: true", bits, i)
			}
		}
		for i, wrong := range others(custom) {
			if kmac.Says(bits, key, m, wrong, tag) {
				t.Errorf("Says of %d, and the wrong custom %d: true", bits, i)
			}
		}
		for i, row := range [][3][]byte{{m, key, custom}, {key, custom, m}, {custom, m, key}, {m, custom, key}, {custom, key, m}} {
			if kmac.Says(bits, row[0], row[1], row[2], tag) {
				t.Errorf("Says of %d, and other places %d: true", bits, i)
			}
		}
		if !kmac.Says(bits, key, m, custom, tag) {
			t.Errorf("Says of %d, after all others: false", bits)
		}
	}
}

func TestSaysOfOtherNumbers(t *testing.T) {
	key, m := scattered(16, 47), scattered(20, 48)
	tags := [][]byte{{0}, make([]byte, 32), library(128, key, m, nil, 32, false), library(256, key, m, nil, 32, false)}
	for _, bits := range notNumbers() {
		for i, tag := range tags {
			if kmac.Says(bits, key, m, nil, tag) || kmac.Says(bits, nil, nil, nil, tag) {
				t.Errorf("Says of %d, and the tag %d: true", bits, i)
			}
		}
	}
}

// --- P16.3 ---

func TestALongerFreeTagBeginsWithAShorterOne(t *testing.T) {
	for _, bits := range numbers() {
		for _, size := range sizes(rateOf(bits)) {
			key, m, custom := scattered(size, 49), scattered(size, 50), scattered(size, 51)
			longest := sum(t, bits, key, m, custom, 1200, true)
			for n := 0; n < 1200; n = n + 1 + n/5 {
				if got := sum(t, bits, key, m, custom, n, true); !bytes.Equal(got, longest[:n]) {
					t.Fatalf("a free tag of %d, in %d, is not what a longer one begins with: %x", bits, n, got)
				}
			}
		}
		longest := sum(t, bits, nil, nil, nil, most, true)
		for _, n := range []int{0, 1, 31, 32, 8191, 8192, most - 1, most} {
			if got := sum(t, bits, nil, nil, nil, n, true); !bytes.Equal(got, longest[:n]) {
				t.Errorf("a free tag of %d, in %d, is not what the longest one begins with", bits, n)
			}
		}
	}
}

// TestOnlyOfAFreeLengthTagsBeginAlike: else each length has tags of its own.
func TestOnlyOfAFreeLengthTagsBeginAlike(t *testing.T) {
	for _, bits := range numbers() {
		seen := map[string]int{}
		for n := 12; n <= 200; n++ {
			for _, free := range []bool{false, true} {
				begin := string(sum(t, bits, scattered(32, 52), scattered(20, 53), nil, n, free)[:12])
				before, ok := seen[begin]
				if ok != (free && n > 12) {
					t.Errorf("tags of %d, in %d and %d, %t, begin alike: %t", bits, before, n, free, ok)
				}
				seen[begin] = n
			}
		}
	}
}

// --- What holds everywhere ---

func TestWhatIsGivenIsNotChanged(t *testing.T) {
	for _, n := range []int{0, 1, 32, 131, 132, 136, 168, 500} {
		// What lies behind the length is looked at, too; all parts may lie in one place.
		whole := scattered(n+300, 54)
		before := bytes.Clone(whole)
		b := whole[:n]
		for _, bits := range numbers() {
			kmac.Head(bits, b)
			kmac.Sum(bits, b, b, b, 50, false)
			kmac.Sum(bits, b, b, b, 50, true)
			kmac.Sum(bits, b, b, b, -1, true)
			kmac.Says(bits, b, b, b, b)
		}
		kmac.Sum(224, b, b, b, 50, false)
		if !bytes.Equal(whole, before) {
			t.Errorf("%d bytes that were given, or what lies behind them, are changed", n)
		}
	}
}

func TestLengthsCountAndNotWhatLiesBehind(t *testing.T) {
	for _, n := range []int{0, 1, 32, 131, 132, 136, 168, 500} {
		b := scattered(n+300, 55)[:n]
		alone := bytes.Clone(b)
		for _, bits := range numbers() {
			same := bytes.Equal(head(t, bits, b), head(t, bits, alone))
			same = same && bytes.Equal(sum(t, bits, b, b, b, 50, false), sum(t, bits, alone, alone, alone, 50, false))
			same = same && bytes.Equal(sum(t, bits, b, b, b, 50, true), sum(t, bits, alone, alone, alone, 50, true))
			tag := append(library(bits, b, b, b, 40, false), 1, 2, 3)
			if same = same && kmac.Says(bits, b, b, b, tag[:40]); !same {
				t.Errorf("what lies behind %d bytes counts, of %d", n, bits)
			}
		}
	}
}

// TestPartsInOnePlace: the key, the message, the custom and the tag may be pieces of one list.
func TestPartsInOnePlace(t *testing.T) {
	for _, bits := range numbers() {
		whole := scattered(400, 56)
		key, m, custom := whole[:100], whole[50:300], whole[290:]
		want := library(bits, bytes.Clone(key), bytes.Clone(m), bytes.Clone(custom), 60, false)
		if got := sum(t, bits, key, m, custom, 60, false); !bytes.Equal(got, want) {
			t.Errorf("Sum of %d, and pieces of one list: %x", bits, got)
		}
		if !kmac.Says(bits, key, m, custom, want) {
			t.Errorf("Says of %d, and pieces of one list: false", bits)
		}
	}
}

// tellers is all calls that tell bytes.
func tellers(t *testing.T, b []byte) map[string]func() []byte {
	return map[string]func() []byte{
		"Head":                 func() []byte { return head(t, 128, b) },
		"Head of 256":          func() []byte { return head(t, 256, b) },
		"Sum":                  func() []byte { return sum(t, 128, b, b, b, 100, false) },
		"Sum of a free length": func() []byte { return sum(t, 256, b, b, b, 100, true) },
	}
}

func TestWhatIsToldIsNewMemory(t *testing.T) {
	for _, n := range []int{0, 5, 32, 131, 132, 163, 164, 300} {
		b := scattered(n, 57)
		before := bytes.Clone(b)
		for name, tell := range tellers(t, b) {
			first := tell()
			want := bytes.Clone(first)
			first = first[:cap(first)]
			for i := range first {
				if i >= len(want) && first[i] != 0 {
					t.Fatalf("%s of %d bytes hands out what lies behind", name, n)
				}
				first[i] ^= 255
			}
			if !bytes.Equal(b, before) {
				t.Fatalf("%s: what is told shares memory with what was given", name)
			}
			if !bytes.Equal(tell(), want) {
				t.Fatalf("%s: what is told shares memory with what is told later", name)
			}
		}
	}
}

// TestWhatIsGivenIsNotKept: what is changed behind a call counts at the next one.
func TestWhatIsGivenIsNotKept(t *testing.T) {
	for _, bits := range numbers() {
		key, m, custom := scattered(32, 58), scattered(20, 59), scattered(5, 60)
		for range 3 {
			for _, b := range [][]byte{key, m, custom} {
				b[len(b)/2]++
				want := library(bits, key, m, custom, 32, false)
				if got := sum(t, bits, key, m, custom, 32, false); !bytes.Equal(got, want) || !kmac.Says(bits, key, m, custom, want) {
					t.Fatalf("Sum of %d tells what was given ahead", bits)
				}
			}
		}
	}
}

func TestManyAskAtOnce(t *testing.T) {
	key, m := scattered(32, 61), scattered(1000, 62)
	fixed, free := library(128, key, m, nil, 40, false), library(256, key, m, nil, 70, true)
	ahead := padded(136, key)
	var group sync.WaitGroup
	for range 16 {
		group.Go(func() {
			a, d := kmac.Sum(128, key, m, nil, 40, false)
			b, e := kmac.Sum(256, key, m, nil, 70, true)
			h, f := kmac.Head(256, key)
			if d != api.OK || e != api.OK || f != api.OK || !bytes.Equal(a, fixed) || !bytes.Equal(b, free) || !bytes.Equal(h, ahead) {
				t.Error("with others at once, a tag is another one")
			}
			if !kmac.Says(128, key, m, nil, fixed) || kmac.Says(256, key, m, nil, free) {
				t.Error("with others at once, a tag is said otherwise")
			}
		})
	}
	group.Wait()
}
