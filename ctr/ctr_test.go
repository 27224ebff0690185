package ctr_test

import (
	"bytes"
	libraryaes "crypto/aes"
	"crypto/cipher"
	"encoding/hex"
	"math"
	"math/big"
	"sync"
	"testing"

	"visor/aes"
	"visor/api"
	"visor/ctr"
	"visor/octet"
)

// most is how many bytes a stream tells, at most, as the chapter writes it.
const most = 65536

// scattered is n bytes, such as a rule of numbers scatters.
func scattered(n int, seed uint64) []byte {
	out := make([]byte, n)
	for i := range out {
		seed = seed*6364136223846793005 + 1442695040888963407
		out[i] = byte(seed >> 56)
	}
	return out
}

// filled is n bytes x.
func filled(x byte, n int) []byte { return bytes.Repeat([]byte{x}, n) }

// decoded is bytes that are written as hexadecimal digits.
func decoded(t *testing.T, text string) []byte {
	t.Helper()
	b, err := hex.DecodeString(text)
	if err != nil {
		t.Fatal(err)
	}
	return b
}

// begins are some of 16 bytes: such that carry nothing, through some bytes, and through all.
func begins() [][]byte {
	list := [][]byte{filled(0, 16), filled(255, 16), filled(254, 16), append(filled(255, 15), 254)}
	for n := range 16 {
		list = append(list, append(scattered(16-n, uint64(n)), filled(255, n)...))
	}
	for seed := range uint64(4) {
		list = append(list, scattered(16, 100+seed))
	}
	return list
}

// notBegins are lists that have not 16 bytes.
func notBegins() [][]byte {
	list := [][]byte{nil, make([]byte, 272), make([]byte, most), make([]byte, most+16)}
	for n := range 70 {
		if n != 16 {
			list = append(list, scattered(n, 1))
		}
	}
	// The room of these is 16, or more than that, and their length is not.
	return append(list, make([]byte, 0, 16), make([]byte, 15, 16), make([]byte, 15, 32), make([]byte, 8, 16))
}

// sizes are some lengths about blocks' ends.
func sizes() []int {
	return []int{0, 1, 2, 7, 15, 16, 17, 31, 32, 33, 47, 48, 49, 255, 256, 257}
}

// someKey is a key of n bytes.
func someKey(n int) []byte { return scattered(n, 77) }

// opened is a cipher with a key that must be one.
func opened(t *testing.T, key []byte) *aes.Cipher {
	t.Helper()
	c, e := aes.New(key)
	if e != api.OK {
		t.Fatalf("a key of %d bytes: %d", len(key), e)
	}
	return c
}

// library is data, covered by the library's cipher and counter.
func library(t *testing.T, key, begin, data []byte) []byte {
	t.Helper()
	c, err := libraryaes.NewCipher(key)
	if err != nil {
		t.Fatal(err)
	}
	out := make([]byte, len(data))
	cipher.NewCTR(c, begin).XORKeyStream(out, data)
	return out
}

// summed is a begin and k, modulo 2^128, worked out by long numbers.
func summed(begin []byte, k *big.Int) []byte {
	sum := new(big.Int).SetBytes(begin)
	sum.Add(sum, k)
	sum.Mod(sum, new(big.Int).Lsh(big.NewInt(1), 128))
	return sum.FillBytes(make([]byte, 16))
}

// streamed is n bytes of a stream from somewhere on, byte by byte, each of the block that it stands in.
func streamed(c *aes.Cipher, begin []byte, from, n int) []byte {
	var out []byte
	for i := range n {
		place := new(big.Int).Add(big.NewInt(int64(from)), big.NewInt(int64(i)))
		k, r := new(big.Int).DivMod(place, big.NewInt(16), new(big.Int))
		block := c.Block([16]byte(summed(begin, k)))
		out = append(out, block[r.Int64()])
	}
	return out
}

// The calls, of which each must tell what it is asked for, without an error.

func stream(t *testing.T, c *aes.Cipher, begin []byte, n int) []byte {
	t.Helper()
	out, e := ctr.Stream(c, begin, n)
	if e != api.OK || len(out) != n {
		t.Fatalf("Stream of %x and %d: %d, and %d bytes", begin, n, e, len(out))
	}
	return out
}

func cover(t *testing.T, c *aes.Cipher, begin, data []byte) []byte {
	t.Helper()
	out, e := ctr.Cover(c, begin, data)
	if e != api.OK || len(out) != len(data) {
		t.Fatalf("Cover of %x and %d bytes: %d, and %d bytes", begin, len(data), e, len(out))
	}
	return out
}

func part(t *testing.T, c *aes.Cipher, begin, data []byte, from int) []byte {
	t.Helper()
	out, e := ctr.Part(c, begin, data, from)
	if e != api.OK || len(out) != len(data) {
		t.Fatalf("Part of %x and %d bytes from %d on: %d, and %d bytes", begin, len(data), from, e, len(out))
	}
	return out
}

func at(t *testing.T, begin []byte, k int) []byte {
	t.Helper()
	out, e := ctr.At(begin, k)
	if e != api.OK || len(out) != 16 {
		t.Fatalf("At of %x and %d: %d, and %d bytes", begin, k, e, len(out))
	}
	return out
}

// --- P10.1 ---

// standard is what the standards print: SP 800-38A, and RFC 3686.
func standard() []struct{ key, begin, plain, covered string } {
	const begin = "f0f1f2f3f4f5f6f7f8f9fafbfcfdfeff"
	const plain = "6bc1bee22e409f96e93d7e117393172aae2d8a571e03ac9c9eb76fac45af8e5130c81c46a35ce411e5fbc1191a0a52eff69f2445df4f9b17ad2b417be66c3710"
	return []struct{ key, begin, plain, covered string }{
		{"2b7e151628aed2a6abf7158809cf4f3c", begin, plain,
			"874d6191b620e3261bef6864990db6ce9806f66b7970fdff8617187bb9fffdff5ae4df3edbd5d35e5b4f09020db03eab1e031dda2fbe03d1792170a0f3009cee"},
		{"8e73b0f7da0e6452c810f32b809079e562f8ead2522c6b7b", begin, plain,
			"1abc932417521ca24f2b0459fe7e6e0b090339ec0aa6faefd5ccc2c6f4ce8e941e36b26bd1ebc670d1bd1d665620abf74f78a7f6d29809585a97daec58c6b050"},
		{"603deb1015ca71be2b73aef0857d77811f352c073b6108d72d9810a30914dff4", begin, plain,
			"601ec313775789a5b7a7f504bbf3d228f443e3ca4d62b59aca84e990cacaf5c52b0930daa23de94ce87017ba2d84988ddfc9c58db67aada613c2dd08457941a6"},
		{"ae6852f8121067cc4bf7a5765577f39e", "00000030000000000000000000000001",
			"53696e676c6520626c6f636b206d7367", "e4095d4fb7a7b3792d6175a3261311b8"},
		{"7e24067817fae0d743d6ce1f32539163", "006cb6dbc0543b59da48d90b00000001",
			"000102030405060708090a0b0c0d0e0f101112131415161718191a1b1c1d1e1f", "5104a106168a72d9790d41ee8edad388eb2e1efc46da57c8fce630df9141be28"},
	}
}

func TestStreamsOfTheStandard(t *testing.T) {
	for _, s := range standard() {
		c := opened(t, decoded(t, s.key))
		begin, plain, covered := decoded(t, s.begin), decoded(t, s.plain), decoded(t, s.covered)
		if got := cover(t, c, begin, plain); !bytes.Equal(got, covered) {
			t.Errorf("%s: Cover: %x, not %s", s.key, got, s.covered)
		}
		if got, want := stream(t, c, begin, len(plain)), octet.Xor(plain, covered); !bytes.Equal(got, want) {
			t.Errorf("%s: Stream: %x, not %x", s.key, got, want)
		}
	}
}

func TestStreamsAreTheLibrarys(t *testing.T) {
	for _, size := range []int{16, 24, 32} {
		key := someKey(size)
		c := opened(t, key)
		for _, begin := range begins() {
			for n := range 70 {
				data := scattered(n, uint64(n))
				if got, want := stream(t, c, begin, n), library(t, key, begin, make([]byte, n)); !bytes.Equal(got, want) {
					t.Fatalf("Stream of %x and %d: %x, not %x", begin, n, got, want)
				}
				if got, want := cover(t, c, begin, data), library(t, key, begin, data); !bytes.Equal(got, want) {
					t.Fatalf("Cover of %x and %x: %x, not %x", begin, data, got, want)
				}
			}
		}
	}
}

func TestAStreamIsBlocksOfCounters(t *testing.T) {
	c := opened(t, someKey(16))
	for _, begin := range begins() {
		// The counters are told by Inc, as the chapter has it.
		var want []byte
		counter := begin
		for range 20 {
			block := c.Block([16]byte(counter))
			want = append(want, block[:]...)
			counter = octet.Inc(counter)
		}
		if got := stream(t, c, begin, len(want)); !bytes.Equal(got, want) {
			t.Fatalf("Stream of %x: %x, not %x", begin, got, want)
		}
	}
}

func TestTheLongestStream(t *testing.T) {
	key := someKey(16)
	c := opened(t, key)
	for _, begin := range [][]byte{scattered(16, 3), filled(255, 16), append(scattered(14, 4), 255, 250)} {
		for _, n := range []int{most - 17, most - 16, most - 15, most - 1, most} {
			data := scattered(n, 5)
			if got, want := stream(t, c, begin, n), library(t, key, begin, make([]byte, n)); !bytes.Equal(got, want) {
				t.Fatalf("Stream of %x and %d is another one", begin, n)
			}
			if got, want := cover(t, c, begin, data), library(t, key, begin, data); !bytes.Equal(got, want) {
				t.Fatalf("Cover of %x and %d bytes is another one", begin, n)
			}
		}
	}
}

func TestNoStreamBelow0OrAboveTheMost(t *testing.T) {
	c := opened(t, someKey(16))
	for _, begin := range begins() {
		for _, n := range []int{-1, -2, -16, -most, math.MinInt32, math.MinInt, most + 1, most + 15, most + 16, 2 * most, math.MaxInt32, math.MaxInt - 1, math.MaxInt} {
			if out, e := ctr.Stream(c, begin, n); e != api.ErrArg || len(out) != 0 {
				t.Errorf("Stream of %x and %d: %d, and %d bytes", begin, n, e, len(out))
			}
		}
		for _, n := range []int{most + 1, most + 15, most + 16, 2 * most} {
			if out, e := ctr.Cover(c, begin, make([]byte, n)); e != api.ErrArg || len(out) != 0 {
				t.Errorf("Cover of %x and %d bytes: %d, and %d bytes", begin, n, e, len(out))
			}
		}
	}
}

func TestNoStreamOfABeginThatHasNot16Bytes(t *testing.T) {
	c := opened(t, someKey(16))
	for _, begin := range notBegins() {
		// What else is wrong is told only behind the begin's length.
		for _, n := range []int{0, 1, 16, most, -1, most + 1, math.MinInt, math.MaxInt} {
			if out, e := ctr.Stream(c, begin, n); e != api.ErrLen || len(out) != 0 {
				t.Errorf("Stream of a begin of %d bytes and %d: %d, and %d bytes", len(begin), n, e, len(out))
			}
		}
		for _, n := range []int{0, 1, 16, most, most + 1} {
			if out, e := ctr.Cover(c, begin, make([]byte, n)); e != api.ErrLen || len(out) != 0 {
				t.Errorf("Cover of a begin of %d bytes and %d: %d, and %d bytes", len(begin), n, e, len(out))
			}
		}
	}
}

// --- P10.2 ---

func TestAt(t *testing.T) {
	for _, c := range []struct {
		begin string
		k     int
		want  string
	}{
		{"ffffffffffffffffffffffffffffffff", 1, "00000000000000000000000000000000"},
		{"ffffffffffffffffffffffffffffffff", 0, "ffffffffffffffffffffffffffffffff"},
		{"ffffffffffffffffffffffffffffffff", 257, "00000000000000000000000000000100"},
		{"00000000000000000000000000000000", 0, "00000000000000000000000000000000"},
		{"00000000000000000000000000000000", 1, "00000000000000000000000000000001"},
		{"00000000000000000000000000000000", 258, "00000000000000000000000000000102"},
		{"00000000000000000000000000000000", math.MaxInt32, "0000000000000000000000007fffffff"},
		{"000000000000000000000000000000ff", 1, "00000000000000000000000000000100"},
		{"0000000000000000000000ffffffffff", 1, "00000000000000000000010000000000"},
		{"0000000000000000ffffffffffffffff", 1, "00000000000000010000000000000000"},
		{"0000000000000000fffffffffffffffe", 1, "0000000000000000ffffffffffffffff"},
		{"0102030405060708090a0b0c0d0e0f10", 16, "0102030405060708090a0b0c0d0e0f20"},
		{"0102030405060708ff0a0b0c0d0e0fff", 1, "0102030405060708ff0a0b0c0d0e1000"},
	} {
		if got := at(t, decoded(t, c.begin), c.k); !bytes.Equal(got, decoded(t, c.want)) {
			t.Errorf("At of %s and %d: %x, not %s", c.begin, c.k, got, c.want)
		}
	}
}

// counts are numbers from 0 on, the greatest ones too.
func counts() []int {
	list := []int{math.MaxInt, math.MaxInt - 1, math.MaxInt - 15, math.MaxInt - 16, math.MaxInt / 16, math.MaxInt32, math.MaxInt32 + 1}
	for n := range 63 {
		list = append(list, 1<<n-1, 1<<n, 1<<n+1)
	}
	for n := range 600 {
		list = append(list, n)
	}
	return list
}

func TestAtIsTheSum(t *testing.T) {
	for _, begin := range begins() {
		for _, k := range counts() {
			if got, want := at(t, begin, k), summed(begin, big.NewInt(int64(k))); !bytes.Equal(got, want) {
				t.Fatalf("At of %x and %d: %x, not %x", begin, k, got, want)
			}
		}
	}
}

func TestAtIsInc(t *testing.T) {
	for _, begin := range begins() {
		counter := begin
		for k := range 1000 {
			if got := at(t, begin, k); !bytes.Equal(got, counter) {
				t.Fatalf("At of %x and %d: %x, not %x", begin, k, got, counter)
			}
			counter = octet.Inc(counter)
		}
	}
}

func TestAtOfWrongThings(t *testing.T) {
	for _, begin := range begins() {
		for _, k := range []int{-1, -2, -16, -256, math.MinInt32, math.MinInt + 1, math.MinInt} {
			if out, e := ctr.At(begin, k); e != api.ErrArg || len(out) != 0 {
				t.Errorf("At of %x and %d: %d, and %x", begin, k, e, out)
			}
		}
	}
	for _, begin := range notBegins() {
		for _, k := range []int{0, 1, math.MaxInt, -1, math.MinInt} {
			if out, e := ctr.At(begin, k); e != api.ErrLen || len(out) != 0 {
				t.Errorf("At of %d bytes and %d: %d, and %x", len(begin), k, e, out)
			}
		}
	}
}

func TestPartFromEachByteOn(t *testing.T) {
	key := someKey(24)
	c := opened(t, key)
	for _, begin := range begins() {
		whole := library(t, key, begin, make([]byte, 400))
		for from := range 70 {
			for _, n := range sizes() {
				data := scattered(n, uint64(from))
				if got, want := part(t, c, begin, data, from), octet.Xor(data, whole[from:]); !bytes.Equal(got, want) {
					t.Fatalf("Part of %x and %d bytes from %d on: %x, not %x", begin, n, from, got, want)
				}
			}
		}
	}
}

func TestPartFromFarOn(t *testing.T) {
	c := opened(t, someKey(16))
	for _, begin := range [][]byte{scattered(16, 6), filled(255, 16), append(scattered(8, 7), filled(255, 8)...)} {
		for _, from := range counts() {
			// The last ones go on behind the greatest number there is.
			data := scattered(33, uint64(from))
			if got, want := part(t, c, begin, data, from), octet.Xor(data, streamed(c, begin, from, 33)); !bytes.Equal(got, want) {
				t.Fatalf("Part of %x from %d on: %x, not %x", begin, from, got, want)
			}
		}
	}
}

func TestTheLongestPart(t *testing.T) {
	key := someKey(16)
	c := opened(t, key)
	begin := append(scattered(14, 8), 255, 240)
	whole := library(t, key, begin, make([]byte, 3*most))
	data := scattered(most, 9)
	for _, from := range []int{0, 1, 15, 16, 17, most - 1, most, most + 1, 2*most - 1, 2 * most} {
		if got, want := part(t, c, begin, data, from), octet.Xor(data, whole[from:]); !bytes.Equal(got, want) {
			t.Fatalf("Part of %d bytes from %d on is another one", len(data), from)
		}
	}
	// The tail of the greatest one is asked for too.
	far := part(t, c, begin, data, math.MaxInt)
	if got, want := far[:40], octet.Xor(data, streamed(c, begin, math.MaxInt, 40)); !bytes.Equal(got, want) {
		t.Fatalf("Part of %d bytes from the greatest number on begins with %x, not %x", len(data), got, want)
	}
}

func TestPartOfWrongThings(t *testing.T) {
	c := opened(t, someKey(16))
	for _, begin := range begins() {
		for _, w := range []struct{ n, from int }{
			{0, -1}, {1, -1}, {16, -16}, {40, -2}, {most, math.MinInt32}, {16, math.MinInt}, {0, math.MinInt},
			{most + 1, 0}, {most + 1, 1}, {most + 1, 16}, {most + 16, 0}, {most + 1, math.MaxInt}, {2 * most, 5}, {most + 1, -1},
		} {
			if out, e := ctr.Part(c, begin, make([]byte, w.n), w.from); e != api.ErrArg || len(out) != 0 {
				t.Errorf("Part of %x and %d bytes from %d on: %d, and %d bytes", begin, w.n, w.from, e, len(out))
			}
		}
	}
	for _, begin := range notBegins() {
		for _, w := range []struct{ n, from int }{{0, 0}, {1, 1}, {most, 0}, {0, -1}, {most + 1, 0}, {most + 1, -1}, {1, math.MinInt}, {1, math.MaxInt}} {
			if out, e := ctr.Part(c, begin, make([]byte, w.n), w.from); e != api.ErrLen || len(out) != 0 {
				t.Errorf("Part of a begin of %d bytes and %d from %d on: %d, and %d bytes", len(begin), w.n, w.from, e, len(out))
			}
		}
	}
}

// --- P10.3 ---

func TestCoveredTwiceDataIsAsItWas(t *testing.T) {
	for _, size := range []int{16, 24, 32} {
		c := opened(t, someKey(size))
		for _, begin := range begins() {
			for _, n := range append(sizes(), 4000) {
				data := scattered(n, 10)
				if got := cover(t, c, begin, cover(t, c, begin, data)); !bytes.Equal(got, data) {
					t.Fatalf("%d bytes, covered twice from %x on, are others", n, begin)
				}
				if got := part(t, c, begin, part(t, c, begin, data, 21), 21); !bytes.Equal(got, data) {
					t.Fatalf("%d bytes, covered twice from byte 21 on, are others", n)
				}
			}
		}
	}
	c, data := opened(t, someKey(16)), scattered(most, 11)
	if !bytes.Equal(cover(t, c, filled(255, 16), cover(t, c, filled(255, 16), data)), data) {
		t.Errorf("%d bytes, covered twice, are others", most)
	}
}

func TestALongerStreamBeginsAsAShorterOne(t *testing.T) {
	c := opened(t, someKey(32))
	for _, begin := range begins() {
		long := stream(t, c, begin, 1000)
		for n := range 200 {
			if !bytes.Equal(stream(t, c, begin, n), long[:n]) {
				t.Fatalf("%d bytes of the stream of %x are not as the longer one begins", n, begin)
			}
		}
	}
	longest := stream(t, c, filled(255, 16), most)
	for n := 0; n < most; n += 4999 {
		if !bytes.Equal(stream(t, c, filled(255, 16), n), longest[:n]) {
			t.Fatalf("%d bytes of a stream are not as the longest one begins", n)
		}
	}
}

func TestFromABlockOnItIsTheStreamOfALaterCounter(t *testing.T) {
	c := opened(t, someKey(16))
	for _, begin := range begins() {
		long := stream(t, c, begin, 16*300)
		for k := range 300 {
			if got := stream(t, c, at(t, begin, k), min(40, len(long)-16*k)); !bytes.Equal(got, long[16*k:][:len(got)]) {
				t.Fatalf("the stream of %x is another one from block %d on", begin, k)
			}
		}
		for _, k := range []int{1 << 40, math.MaxInt / 16} {
			if got, want := part(t, c, begin, make([]byte, 40), 16*k), stream(t, c, at(t, begin, k), 40); !bytes.Equal(got, want) {
				t.Fatalf("the stream of %x is another one from block %d on", begin, k)
			}
		}
	}
}

func TestCoveredPartByPartIsCovered(t *testing.T) {
	c := opened(t, someKey(16))
	for _, begin := range begins() {
		data := scattered(300, 12)
		want := cover(t, c, begin, data)
		if got := part(t, c, begin, data, 0); !bytes.Equal(got, want) {
			t.Fatalf("Part of %x from 0 on: %x, not %x", begin, got, want)
		}
		for _, step := range []int{1, 3, 15, 16, 17, 31, 32, 33, 100, 299, 300} {
			var got []byte
			for from := 0; from < len(data); from += step {
				got = append(got, part(t, c, begin, data[from:min(from+step, len(data))], from)...)
			}
			if !bytes.Equal(got, want) {
				t.Fatalf("covered %d by %d from %x on: %x, not %x", step, step, begin, got, want)
			}
		}
	}
}

// --- What holds everywhere ---

func TestNobodysCipherTellsTheCounters(t *testing.T) {
	// Of nobody's cipher a block is the one that it is handed: so that what is left are the counters.
	for _, begin := range begins() {
		var want []byte
		for k := range 5 {
			want = append(want, at(t, begin, k)...)
		}
		if got := stream(t, nil, begin, 80); !bytes.Equal(got, want) {
			t.Fatalf("Stream of nobody's cipher and %x: %x, not %x", begin, got, want)
		}
		if got := cover(t, nil, begin, make([]byte, 80)); !bytes.Equal(got, want) {
			t.Fatalf("Cover of nobody's cipher and %x: %x, not %x", begin, got, want)
		}
		if got := part(t, nil, begin, make([]byte, 70), 10); !bytes.Equal(got, want[10:]) {
			t.Fatalf("Part of nobody's cipher and %x: %x, not %x", begin, got, want[10:])
		}
	}
	if out, e := ctr.Stream(nil, nil, 1); e != api.ErrLen || len(out) != 0 {
		t.Errorf("Stream of nothing: %d, and %x", e, out)
	}
}

func TestCiphersThatNewDidNotMakePanicNowhere(t *testing.T) {
	c := new(aes.Cipher)
	for _, begin := range [][]byte{nil, filled(255, 16), filled(255, 17)} {
		for _, n := range []int{math.MinInt, -1, 0, 1, 33, most + 1, math.MaxInt} {
			ctr.Stream(c, begin, n)
			ctr.Part(c, begin, filled(1, 33), n)
		}
		ctr.Cover(c, begin, filled(1, 33))
	}
}

func TestWhatIsGivenIsNotChanged(t *testing.T) {
	c := opened(t, someKey(16))
	for _, n := range append(sizes(), most, most+1) {
		for _, size := range []int{0, 15, 16, 17} {
			// What lies behind the lengths is looked at, too.
			longBegin, longData := filled(255, size+40), scattered(n+40, 13)
			keptBegin, keptData := bytes.Clone(longBegin), bytes.Clone(longData)
			begin, data := longBegin[:size], longData[:n]
			ctr.Stream(c, begin, n)
			ctr.Cover(c, begin, data)
			ctr.Part(c, begin, data, 5)
			ctr.At(begin, 300)
			if !bytes.Equal(longBegin, keptBegin) || !bytes.Equal(longData, keptData) {
				t.Fatalf("a begin of %d bytes, or data of %d, is changed", size, n)
			}
		}
	}
}

func TestLengthsCountAndNotWhatLiesBehind(t *testing.T) {
	c := opened(t, someKey(16))
	for _, n := range sizes() {
		longBegin, longData := scattered(48, 14), scattered(n+40, 15)
		begin, data := longBegin[:16], longData[:n]
		alone, dataAlone := bytes.Clone(begin), bytes.Clone(data)
		if !bytes.Equal(stream(t, c, begin, n), stream(t, c, alone, n)) || !bytes.Equal(at(t, begin, n), at(t, alone, n)) {
			t.Fatalf("what lies behind a begin counts in %d bytes", n)
		}
		if !bytes.Equal(cover(t, c, begin, data), cover(t, c, alone, dataAlone)) || !bytes.Equal(part(t, c, begin, data, 9), part(t, c, alone, dataAlone, 9)) {
			t.Fatalf("what lies behind %d bytes counts", n)
		}
	}
}

func TestNothingIsHandedOutBehindTheLength(t *testing.T) {
	c := opened(t, someKey(16))
	begin := scattered(16, 16)
	for _, n := range append(sizes(), most-1, most) {
		for name, out := range map[string][]byte{
			"Stream": stream(t, c, begin, n), "Cover": cover(t, c, begin, make([]byte, n)),
			"Part": part(t, c, begin, make([]byte, n), 7), "At": at(t, begin, n),
		} {
			for _, x := range out[len(out):cap(out)] {
				if x != 0 {
					t.Fatalf("%s of %d hands out what lies behind", name, n)
				}
			}
		}
	}
}

func TestWhatIsToldIsNewMemory(t *testing.T) {
	c := opened(t, someKey(16))
	begin, data := scattered(16, 17), scattered(40, 18)
	keptBegin, keptData := bytes.Clone(begin), bytes.Clone(data)
	for name, tell := range map[string]func() []byte{
		"Stream": func() []byte { return stream(t, c, begin, 40) },
		"Cover":  func() []byte { return cover(t, c, begin, data) },
		"Part":   func() []byte { return part(t, c, begin, data, 3) },
		"from 0": func() []byte { return part(t, c, begin, data, 0) },
		"At":     func() []byte { return at(t, begin, 1) },
		"At 0":   func() []byte { return at(t, begin, 0) },
	} {
		first := tell()
		want := bytes.Clone(first)
		for i := range first {
			first[i] ^= 255
		}
		if !bytes.Equal(begin, keptBegin) || !bytes.Equal(data, keptData) {
			t.Fatalf("%s: what is told shares memory with what was given", name)
		}
		if !bytes.Equal(tell(), want) {
			t.Fatalf("%s: what is told shares memory with what is told later", name)
		}
	}
}

func TestAnErrorChangesNothingLater(t *testing.T) {
	c := opened(t, someKey(16))
	begin, data := scattered(16, 19), scattered(50, 20)
	streamedFirst, coveredFirst := stream(t, c, begin, 50), cover(t, c, begin, data)
	ctr.Stream(c, begin[:3], 50)
	ctr.Stream(c, begin, -1)
	ctr.Cover(c, begin, make([]byte, most+1))
	ctr.Part(c, begin, data, -1)
	ctr.At(begin, -1)
	if !bytes.Equal(stream(t, c, begin, 50), streamedFirst) || !bytes.Equal(cover(t, c, begin, data), coveredFirst) {
		t.Error("behind an error, a stream is another one")
	}
}

func TestManyCoverAtOnce(t *testing.T) {
	key := someKey(16)
	c, begin, data := opened(t, key), filled(255, 16), scattered(500, 21)
	want := library(t, key, begin, data)
	var all sync.WaitGroup
	for i := range 16 {
		all.Go(func() {
			covered, e := ctr.Cover(c, begin, data)
			later, d := ctr.Part(c, begin, data[i:], i)
			if e != api.OK || d != api.OK || !bytes.Equal(covered, want) || !bytes.Equal(later, want[i:]) {
				t.Error("with others at once, what is covered is another one")
			}
		})
	}
	all.Wait()
}
