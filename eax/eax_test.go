package eax_test

import (
	"bytes"
	libraryaes "crypto/aes"
	"crypto/cipher"
	"encoding/hex"
	"math"
	"math/big"
	"sync"
	"testing"

	"visor/aes"
	"visor/api"
	"visor/cmac"
	"visor/ctr"
	"visor/eax"
	"visor/octet"
)

// most is how many bytes are covered, at most, as the chapter writes it.
const most = 65536

// scattered is n bytes, such as a rule of numbers scatters.
func scattered(n int, seed uint64) []byte {
	out := make([]byte, n)
	for i := range out {
		seed = seed*6364136223846793005 + 1442695040888963407
		out[i] = byte(seed >> 56)
	}
	return out
}

// decoded is bytes that are written as hexadecimal digits.
func decoded(t *testing.T, text string) []byte {
	t.Helper()
	b, err := hex.DecodeString(text)
	if err != nil {
		t.Fatal(err)
	}
	return b
}

// someKey is a key of n bytes.
func someKey(n int) []byte { return scattered(n, 77) }

// opened is a cipher with a key that must be one.
func opened(t *testing.T, key []byte) *aes.Cipher {
	t.Helper()
	c, e := aes.New(key)
	if e != api.OK {
		t.Fatalf("a key of %d bytes: %d", len(key), e)
	}
	return c
}

// libraryCipher is the library's AES.
func libraryCipher(t *testing.T, key []byte) cipher.Block {
	t.Helper()
	c, err := libraryaes.NewCipher(key)
	if err != nil {
		t.Fatal(err)
	}
	return c
}

// doubled is 16 bytes, doubled as a polynomial by long numbers: the power 128 of x is x^7 + x^2 + x + 1.
func doubled(b []byte) []byte {
	twice := new(big.Int).Lsh(new(big.Int).SetBytes(b), 1)
	if twice.Bit(128) == 1 {
		modulus := new(big.Int).SetBit(big.NewInt(0b10000111), 128, 1)
		twice.Xor(twice, modulus)
	}
	return twice.FillBytes(make([]byte, 16))
}

// libraryTag is the tag of 15 bytes 0, a name, and a message, by the library's AES: the last block that its chain of blocks comes to.
func libraryTag(t *testing.T, key []byte, name byte, m []byte) []byte {
	t.Helper()
	c := libraryCipher(t, key)
	enciphered := make([]byte, 16)
	c.Encrypt(enciphered, enciphered)
	mask := doubled(enciphered)
	whole := append(append(make([]byte, 15), name), m...)
	if len(whole)%16 != 0 {
		mask = doubled(mask)
		whole = append(whole, 128)
		for len(whole)%16 != 0 {
			whole = append(whole, 0)
		}
	}
	last := len(whole) - 16
	for i := range 16 {
		whole[last+i] ^= mask[i]
	}
	cipher.NewCBCEncrypter(c, make([]byte, 16)).CryptBlocks(whole, whole)
	return whole[last:]
}

// library is what is covered, and the tag of 16 bytes, by the library's AES.
func library(t *testing.T, key, nonce, head, data []byte) (covered, tag []byte) {
	t.Helper()
	n := libraryTag(t, key, 0, nonce)
	covered = make([]byte, len(data))
	cipher.NewCTR(libraryCipher(t, key), n).XORKeyStream(covered, data)
	h, s := libraryTag(t, key, 1, head), libraryTag(t, key, 2, covered)
	for i := range n {
		tag = append(tag, n[i]^h[i]^s[i])
	}
	return covered, tag
}

// sealed is what is covered, and a tag of n bytes, of what must be sealed.
func sealed(t *testing.T, c *aes.Cipher, nonce, head, data []byte, n int) (covered, tag []byte) {
	t.Helper()
	covered, tag, e := eax.Seal(c, nonce, head, data, n)
	if e != api.OK || len(covered) != len(data) || len(tag) != n {
		t.Fatalf("Seal of %d bytes, and %d: %d, %d bytes, and a tag of %d", len(data), n, e, len(covered), len(tag))
	}
	return covered, tag
}

// mustUnseal wants data to be what is unsealed.
func mustUnseal(t *testing.T, c *aes.Cipher, nonce, head, covered, tag, data []byte) {
	t.Helper()
	got, ok, e := eax.Unseal(c, nonce, head, covered, tag)
	if e != api.OK || !ok || !bytes.Equal(got, data) {
		t.Fatalf("Unseal of %x and the tag %x: %x, %t, %d, not %x", covered, tag, got, ok, e, data)
	}
}

// mustNot wants nothing to be unsealed, and no error.
func mustNot(t *testing.T, c *aes.Cipher, nonce, head, covered, tag []byte) {
	t.Helper()
	got, ok, e := eax.Unseal(c, nonce, head, covered, tag)
	if e != api.OK || ok || len(got) != 0 {
		t.Fatalf("Unseal of %x and the tag %x that is not right: %x, %t, %d", covered, tag, got, ok, e)
	}
}

// sizes are some lengths about blocks' ends.
func sizes() []int {
	return []int{0, 1, 2, 7, 8, 15, 16, 17, 31, 32, 33, 47, 48, 49, 64, 65}
}

// notSizes are numbers of bytes that no tag has.
func notSizes() []int {
	return []int{math.MinInt, math.MinInt32, -65536, -17, -16, -1, 0, 17, 18, 24, 31, 32, 33, 255, 256, 257, 65536, 65537, math.MaxInt32, math.MaxInt}
}

// --- P12.1 ---

// vector is a row of what is printed where EAX was told first: the tag stands behind what is covered.
type vector struct{ data, key, nonce, head, out string }

func vectors() []vector {
	return []vector{
		{"", "233952dee4d5ed5f9b9c6d6ff80ff478", "62ec67f9c3a4a407fcb2a8c49031a8b3", "6bfb914fd07eae6b",
			"e037830e8389f27b025a2d6527e79d01"},
		{"f7fb", "91945d3f4dcbee0bf45ef52255f095a4", "becaf043b0a23d843194ba972c66debd", "fa3bfd4806eb53fa",
			"19dd5c4c9331049d0bdab0277408f67967e5"},
		{"1a47cb4933", "01f74ad64077f2e704c0f60ada3dd523", "70c3db4f0d26368400a10ed05d2bff5e", "234a3463c1264ac6",
			"d851d5bae03a59f238a23e39199dc9266626c40f80"},
		{"481c9e39b1", "d07cf6cbb7f313bdde66b727afd3c5e8", "8408dfff3c1a2b1292dc199e46b7d617", "33cce2eabff5a79d",
			"632a9d131ad4c168a4225d8e1ff755939974a7bede"},
		{"40d0c07da5e4", "35b6d0580005bbc12b0587124557d2c2", "fdb6b06676eedc5c61d74276e1f8e816", "aeb96eaebe2970e9",
			"071dfe16c675cb0677e536f73afe6a14b74ee49844dd"},
		{"4de3b35c3fc039245bd1fb7d", "bd8e6e11475e60b268784c38c62feb22", "6eac5c93072d8e8513f750935e46da1b", "d4482d1ca78dce0f",
			"835bb4f15d743e350e728414abb8644fd6ccb86947c5e10590210a4f"},
		{"8b0a79306c9ce7ed99dae4f87f8dd61636", "7c77d6e813bed5ac98baa417477a2e7d", "1a8c98dcd73d38393b2bf1569deefc19", "65d2017990d62528",
			"02083e3979da014812f59f11d52630da30137327d10649b0aa6e1c181db617d7f2"},
		{"1bda122bce8a8dbaf1877d962b8592dd2d56", "5fff20cafab119ca2fc73549e20f5b0d", "dde59b97d722156d4d9aff2bc7559826", "54b9f04e6a09189a",
			"2ec47b2c4954a489afc7ba4897edcdae8cc33b60450599bd02c96382902aef7f832a"},
		{"6cf36720872b8513f6eab1a8a44438d5ef11", "a4a4782bcffd3ec5e7ef6d8c34a56123", "b781fcf2f75fa5a8de97a9ca48e522ec", "899a175897561d7e",
			"0de18fd0fdd91e7af19f1d8ee8733938b1e8e7f6d2231618102fdb7fe55ff1991700"},
		{"ca40d7446e545ffaed3bd12a740a659ffbbb3ceab7", "8395fcf1e95bebd697bd010bc766aac3", "22e7add93cfc6393c57ec0b3c17d6b44", "126735fcc320d25a",
			"cb8920f87a6c75cff39627b56e3ed197c552d295a7cfc46afc253b4652b1af3795b124ab6e"},
	}
}

func TestSealsThatArePrinted(t *testing.T) {
	for _, v := range vectors() {
		c := opened(t, decoded(t, v.key))
		nonce, head, data, out := decoded(t, v.nonce), decoded(t, v.head), decoded(t, v.data), decoded(t, v.out)
		wantCovered, wantTag := out[:len(data)], out[len(data):]
		for n := 1; n <= 16; n++ {
			covered, tag := sealed(t, c, nonce, head, data, n)
			if !bytes.Equal(covered, wantCovered) || !bytes.Equal(tag, wantTag[:n]) {
				t.Fatalf("Seal of %s, and %d: %x, %x, not %s", v.data, n, covered, tag, v.out)
			}
			mustUnseal(t, c, nonce, head, wantCovered, wantTag[:n], data)
		}
		if got := eax.Tag(c, nonce, head, wantCovered); !bytes.Equal(got, wantTag) {
			t.Fatalf("Tag of %x: %x, not %x", wantCovered, got, wantTag)
		}
	}
}

func TestTheChaptersExample(t *testing.T) {
	for _, size := range []int{16, 24, 32} {
		c := opened(t, make([]byte, size))
		for n := 1; n <= 16; n++ {
			covered, tag, e := eax.Seal(c, nil, nil, nil, n)
			if e != api.OK || len(covered) != 0 || len(tag) != n {
				t.Errorf("a seal of no data, and %d: %x, %x, %d", n, covered, tag, e)
			}
			mustUnseal(t, c, nil, nil, nil, tag, nil)
		}
	}
}

// likeTheLibrary wants a seal to be the library's, in all calls.
func likeTheLibrary(t *testing.T, key, nonce, head, data []byte) {
	t.Helper()
	c := opened(t, key)
	wantCovered, wantTag := library(t, key, nonce, head, data)
	n := 1 + (len(nonce)+len(head)+len(data))%16
	covered, tag := sealed(t, c, nonce, head, data, n)
	if !bytes.Equal(covered, wantCovered) || !bytes.Equal(tag, wantTag[:n]) {
		t.Fatalf("Seal of %x, %x, %x, and %d: %x, %x, not %x, %x", nonce, head, data, n, covered, tag, wantCovered, wantTag[:n])
	}
	if got := eax.Tag(c, nonce, head, wantCovered); !bytes.Equal(got, wantTag) {
		t.Fatalf("Tag of %x, %x, %x: %x, not %x", nonce, head, wantCovered, got, wantTag)
	}
	mustUnseal(t, c, nonce, head, wantCovered, wantTag, data)
	mustUnseal(t, c, nonce, head, wantCovered, wantTag[:n], data)
}

func TestSealsAreTheLibrarys(t *testing.T) {
	for _, size := range []int{16, 24, 32} {
		key := someKey(size)
		for n := range 70 {
			likeTheLibrary(t, key, scattered(16, 1), scattered(8, 2), scattered(n, 3))
			likeTheLibrary(t, key, scattered(16, 4), scattered(n, 5), scattered(20, 6))
			likeTheLibrary(t, key, scattered(n, 7), scattered(8, 8), scattered(20, 9))
			likeTheLibrary(t, key, scattered(n, 10), scattered(n, 11), scattered(n, 12))
			likeTheLibrary(t, key, scattered(n, 10), nil, nil)
			likeTheLibrary(t, key, nil, scattered(n, 11), nil)
			likeTheLibrary(t, key, nil, nil, scattered(n, 12))
		}
	}
}

func TestSealsAreTheLibrarysOverAllSizes(t *testing.T) {
	list := []int{0, 1, 15, 16, 17, 32, 33}
	for _, nonce := range list {
		for _, head := range list {
			for _, data := range list {
				seed := uint64(nonce + 100*head + 10000*data)
				likeTheLibrary(t, scattered(16, seed), scattered(nonce, seed+1), scattered(head, seed+2), scattered(data, seed+3))
			}
		}
	}
}

func TestSealsThatAreLong(t *testing.T) {
	key := someKey(16)
	likeTheLibrary(t, key, scattered(16, 13), scattered(8, 14), scattered(most, 15))
	likeTheLibrary(t, key, scattered(16, 13), scattered(8, 14), scattered(most-1, 15))
	// Only of what is covered the length is bound.
	likeTheLibrary(t, key, scattered(most+1, 16), scattered(8, 17), scattered(20, 18))
	likeTheLibrary(t, key, scattered(16, 19), scattered(most+1, 20), scattered(20, 21))
	likeTheLibrary(t, key, scattered(200000, 22), scattered(200000, 23), scattered(most, 24))
}

func TestTheTagOfMoreThanIsCovered(t *testing.T) {
	key := someKey(16)
	c := opened(t, key)
	nonce, head := scattered(16, 25), scattered(8, 26)
	for _, size := range []int{most - 1, most, most + 1, most + 16, 200000} {
		covered := scattered(size, 27)
		want := octet.Xor(libraryTag(t, key, 0, nonce), libraryTag(t, key, 1, head))
		want = octet.Xor(want, libraryTag(t, key, 2, covered))
		if got := eax.Tag(c, nonce, head, covered); !bytes.Equal(got, want) {
			t.Errorf("Tag of %d bytes: %x, not %x", size, got, want)
		}
	}
}

func TestASealIsMadeOfTagsAndAStream(t *testing.T) {
	for _, size := range []int{16, 24, 32} {
		c := opened(t, someKey(size))
		for _, k := range sizes() {
			nonce, head, data := scattered(k, 28), scattered(k/2, 29), scattered(k, 30)
			n := cmac.Named(c, 0, nonce)
			covered, tag := sealed(t, c, nonce, head, data, 16)
			if want, e := ctr.Cover(c, n, data); e != api.OK || !bytes.Equal(covered, want) {
				t.Fatalf("%d bytes are covered as %x, not %x", k, covered, want)
			}
			want := octet.Xor(octet.Xor(n, cmac.Named(c, 1, head)), cmac.Named(c, 2, covered))
			if !bytes.Equal(tag, want) || !bytes.Equal(eax.Tag(c, nonce, head, covered), want) {
				t.Fatalf("the tag of %d bytes is %x, not %x", k, tag, want)
			}
		}
	}
}

func TestSealWantsATagsLength(t *testing.T) {
	c := opened(t, someKey(16))
	for _, n := range notSizes() {
		for _, size := range []int{0, 1, 16, 40, most, most + 1, most + 16} {
			// Of two errors the length's goes ahead.
			covered, tag, e := eax.Seal(c, scattered(16, 31), scattered(8, 32), scattered(size, 33), n)
			if e != api.ErrLen || len(covered) != 0 || len(tag) != 0 {
				t.Errorf("Seal of %d bytes, and %d: %d bytes, and a tag of %d: %d", size, n, len(covered), len(tag), e)
			}
		}
		if covered, tag, e := eax.Seal(nil, nil, nil, nil, n); e != api.ErrLen || len(covered) != 0 || len(tag) != 0 {
			t.Errorf("Seal of nobody's cipher, and %d: %d", n, e)
		}
	}
}

func TestSealWantsNoMoreThanAStreamHas(t *testing.T) {
	c := opened(t, someKey(16))
	for _, size := range []int{most + 1, most + 2, most + 15, most + 16, 2 * most, 1 << 20} {
		for _, n := range []int{1, 8, 15, 16} {
			covered, tag, e := eax.Seal(c, scattered(16, 34), scattered(8, 35), make([]byte, size), n)
			if e != api.ErrArg || len(covered) != 0 || len(tag) != 0 {
				t.Errorf("Seal of %d bytes, and %d: %d bytes, and a tag of %d: %d", size, n, len(covered), len(tag), e)
			}
		}
	}
}

func TestACutTagIsTheBeginOfTheWholeOne(t *testing.T) {
	c := opened(t, someKey(32))
	for _, size := range sizes() {
		nonce, head, data := scattered(16, 36), scattered(size, 37), scattered(size, 38)
		wantCovered, want := sealed(t, c, nonce, head, data, 16)
		for n := 1; n <= 16; n++ {
			covered, tag := sealed(t, c, nonce, head, data, n)
			if !bytes.Equal(covered, wantCovered) || !bytes.Equal(tag, want[:n]) {
				t.Fatalf("Seal of %d bytes, and %d: %x, %x, not %x, %x", size, n, covered, tag, wantCovered, want[:n])
			}
		}
		if got := eax.Tag(c, nonce, head, wantCovered); !bytes.Equal(got, want) {
			t.Fatalf("Tag of %d bytes: %x, not %x", size, got, want)
		}
	}
}

func TestThePartsOfASealAreNotOneForAnother(t *testing.T) {
	c := opened(t, someKey(16))
	x, y, z := scattered(16, 39), scattered(17, 40), scattered(18, 41)
	seen := map[string]int{}
	for i, parts := range [][3][]byte{
		{x, y, z}, {x, z, y}, {y, x, z}, {y, z, x}, {z, x, y}, {z, y, x},
		{x, x, x}, {x, x, y}, {x, y, x}, {y, x, x}, {y, y, y}, {y, y, x}, {y, x, y}, {x, y, y},
		{nil, nil, nil}, {x, nil, nil}, {nil, x, nil}, {nil, nil, x},
	} {
		tag := string(eax.Tag(c, parts[0], parts[1], parts[2]))
		if other, ok := seen[tag]; ok {
			t.Errorf("the parts %d and %d have one tag", i, other)
		}
		seen[tag] = i
	}
}

// --- P12.2 ---

func TestUnsealEachBeginOfTheTag(t *testing.T) {
	for _, size := range []int{16, 24, 32} {
		key := someKey(size)
		c := opened(t, key)
		for _, k := range sizes() {
			nonce, head, data := scattered(16, 42), scattered(8, 43), scattered(k, 44)
			covered, tag := library(t, key, nonce, head, data)
			for n := 1; n <= 16; n++ {
				mustUnseal(t, c, nonce, head, covered, tag[:n], data)
			}
		}
	}
}

func TestUnsealNoTagWithAnotherBit(t *testing.T) {
	key := someKey(16)
	c := opened(t, key)
	for _, k := range []int{0, 5, 16, 20} {
		nonce, head, data := scattered(16, 45), scattered(8, 46), scattered(k, 47)
		covered, tag := library(t, key, nonce, head, data)
		for n := 1; n <= 16; n++ {
			for bit := range 8 * n {
				wrong := bytes.Clone(tag[:n])
				wrong[bit/8] ^= 1 << (bit % 8)
				mustNot(t, c, nonce, head, covered, wrong)
			}
		}
	}
}

func TestUnsealNoOtherPartOfTheTag(t *testing.T) {
	key := someKey(16)
	c, nonce, head, data := opened(t, key), scattered(16, 48), scattered(8, 49), scattered(20, 50)
	covered, tag := library(t, key, nonce, head, data)
	for from := 1; from < 16; from++ {
		for to := from + 1; to <= 16; to++ {
			if !bytes.Equal(tag[from:to], tag[:to-from]) {
				mustNot(t, c, nonce, head, covered, tag[from:to])
			}
		}
	}
	// Each of the three tags alone, and two of them, are not enough.
	n, h, s := libraryTag(t, key, 0, nonce), libraryTag(t, key, 1, head), libraryTag(t, key, 2, covered)
	for _, wrong := range [][]byte{n, h, s, octet.Xor(n, h), octet.Xor(n, s), octet.Xor(h, s), make([]byte, 16)} {
		mustNot(t, c, nonce, head, covered, wrong)
	}
}

func TestUnsealWantsATagsLength(t *testing.T) {
	key := someKey(16)
	c := opened(t, key)
	for _, size := range []int{0, 1, 16, 40, most, most + 1, most + 16} {
		nonce, head, covered := scattered(16, 51), scattered(8, 52), scattered(size, 53)
		tag := eax.Tag(c, nonce, head, covered)
		wrong := [][]byte{nil, {}, tag[:0], make([]byte, 0, 16), make([]byte, most), make([]byte, most+1)}
		for more := 1; more < 20; more++ {
			// The first 16 bytes are right, and too many are there.
			wrong = append(wrong, append(bytes.Clone(tag), make([]byte, more)...))
		}
		// Of two errors the length's goes ahead.
		for _, w := range append(wrong, append(bytes.Clone(tag), tag...)) {
			if data, ok, e := eax.Unseal(c, nonce, head, covered, w); e != api.ErrLen || ok || len(data) != 0 {
				t.Errorf("Unseal of %d bytes, and a tag of %d: %d bytes, %t, %d", size, len(w), len(data), ok, e)
			}
		}
	}
	if data, ok, e := eax.Unseal(nil, nil, nil, nil, nil); e != api.ErrLen || ok || len(data) != 0 {
		t.Errorf("Unseal of nothing: %x, %t, %d", data, ok, e)
	}
}

func TestUnsealWantsNoMoreThanAStreamHas(t *testing.T) {
	c := opened(t, someKey(16))
	for _, size := range []int{most + 1, most + 2, most + 15, most + 16, 2 * most} {
		nonce, head, covered := scattered(16, 54), scattered(8, 55), scattered(size, 56)
		tag := eax.Tag(c, nonce, head, covered)
		wrong := bytes.Clone(tag)
		wrong[0] ^= 1
		// Whether the tag is right or not, it is too much.
		for _, told := range [][]byte{tag, tag[:8], tag[:1], wrong, wrong[:1], make([]byte, 16)} {
			if data, ok, e := eax.Unseal(c, nonce, head, covered, told); e != api.ErrArg || ok || len(data) != 0 {
				t.Errorf("Unseal of %d bytes, and a tag of %d: %d bytes, %t, %d", size, len(told), len(data), ok, e)
			}
		}
	}
}

func TestUnsealAsMuchAsAStreamHas(t *testing.T) {
	key := someKey(16)
	c, nonce, head := opened(t, key), scattered(16, 57), scattered(8, 58)
	for _, size := range []int{most - 1, most} {
		data := scattered(size, 59)
		covered, tag := library(t, key, nonce, head, data)
		got, ok, e := eax.Unseal(c, nonce, head, covered, tag)
		if e != api.OK || !ok || !bytes.Equal(got, data) {
			t.Errorf("Unseal of %d bytes: %d bytes, %t, %d", size, len(got), ok, e)
		}
		covered[size-1] ^= 1
		if got, ok, e := eax.Unseal(c, nonce, head, covered, tag); e != api.OK || ok || len(got) != 0 {
			t.Errorf("Unseal of %d bytes with another byte: %d bytes, %t, %d", size, len(got), ok, e)
		}
	}
}

// others are some lists that are not x, which has one byte at least: none, a shorter one, longer ones, and such of its length.
func others(x []byte) [][]byte {
	return [][]byte{
		nil, x[:len(x)-1], x[1:], append(bytes.Clone(x), 0), append(bytes.Clone(x), 128),
		make([]byte, len(x)), scattered(len(x), 63), octet.Inc(x),
	}
}

func TestUnsealNothingOfOthers(t *testing.T) {
	key := someKey(16)
	c, other := opened(t, key), opened(t, scattered(16, 78))
	for _, k := range []int{2, 15, 16, 17, 32, 40} {
		nonce, head, data := scattered(k, 60), scattered(k, 61), scattered(k, 62)
		covered, tag := sealed(t, c, nonce, head, data, 16)
		for _, n := range []int{4, 8, 16} {
			mustNot(t, other, nonce, head, covered, tag[:n])
			mustNot(t, nil, nonce, head, covered, tag[:n])
			for _, wrong := range others(nonce) {
				mustNot(t, c, wrong, head, covered, tag[:n])
			}
			for _, wrong := range others(head) {
				mustNot(t, c, nonce, wrong, covered, tag[:n])
			}
			for _, wrong := range others(covered) {
				mustNot(t, c, nonce, head, wrong, tag[:n])
			}
			mustNot(t, c, head, nonce, covered, tag[:n])
			mustNot(t, c, nonce, covered, head, tag[:n])
			mustNot(t, c, covered, head, nonce, tag[:n])
			// A byte that is moved from one part to the next is another one's.
			mustNot(t, c, nonce[:k-1], append([]byte{nonce[k-1]}, head...), covered, tag[:n])
			mustNot(t, c, nonce, head[:k-1], append([]byte{head[k-1]}, covered...), tag[:n])
			mustUnseal(t, c, nonce, head, covered, tag[:n], data)
		}
	}
}

func TestUnsealNoOtherNonceOrHead(t *testing.T) {
	c := opened(t, someKey(24))
	nonce, head, data := scattered(20, 64), scattered(37, 65), scattered(21, 66)
	covered, tag := sealed(t, c, nonce, head, data, 16)
	for bit := range 8 * len(nonce) {
		wrong := bytes.Clone(nonce)
		wrong[bit/8] ^= 1 << (bit % 8)
		mustNot(t, c, wrong, head, covered, tag)
	}
	for bit := range 8 * len(head) {
		wrong := bytes.Clone(head)
		wrong[bit/8] ^= 1 << (bit % 8)
		mustNot(t, c, nonce, wrong, covered, tag)
	}
}

// --- P12.3 ---

func TestWhatIsSealedIsUnsealed(t *testing.T) {
	for _, size := range []int{16, 24, 32} {
		c := opened(t, someKey(size))
		for k := range 70 {
			nonce, head, data := scattered(k%23, uint64(k)), scattered(k%29, uint64(k)), scattered(k, uint64(k))
			for n := 1; n <= 16; n++ {
				covered, tag := sealed(t, c, nonce, head, data, n)
				mustUnseal(t, c, nonce, head, covered, tag, data)
			}
		}
	}
}

func TestAnotherByteInWhatIsCovered(t *testing.T) {
	c := opened(t, someKey(16))
	for _, k := range []int{1, 15, 16, 17, 33} {
		nonce, head := scattered(16, 67), scattered(8, 68)
		covered, tag := sealed(t, c, nonce, head, scattered(k, 69), 16)
		for i := range covered {
			for x := 1; x < 256; x++ {
				wrong := bytes.Clone(covered)
				wrong[i] ^= byte(x)
				mustNot(t, c, nonce, head, wrong, tag)
			}
		}
	}
}

func TestAnotherByteInATag(t *testing.T) {
	for _, size := range []int{16, 24, 32} {
		c := opened(t, someKey(size))
		for _, k := range []int{0, 16, 20} {
			nonce, head := scattered(16, 70), scattered(8, 71)
			covered, tag := sealed(t, c, nonce, head, scattered(k, 72), 16)
			for i := range tag {
				for x := 1; x < 256; x += 6 {
					wrong := bytes.Clone(tag)
					wrong[i] ^= byte(x)
					mustNot(t, c, nonce, head, covered, wrong)
				}
			}
		}
	}
}

func TestMoreOrLessOfWhatIsCovered(t *testing.T) {
	c := opened(t, someKey(16))
	for _, k := range sizes() {
		nonce, head := scattered(16, 73), scattered(8, 74)
		covered, tag := sealed(t, c, nonce, head, scattered(k, 75), 16)
		for n := range k {
			mustNot(t, c, nonce, head, covered[:n], tag)
		}
		for more := 1; more < 20; more++ {
			mustNot(t, c, nonce, head, append(bytes.Clone(covered), make([]byte, more)...), tag)
			mustNot(t, c, nonce, head, append(append(bytes.Clone(covered), 128), make([]byte, more-1)...), tag)
		}
	}
}

// --- What holds everywhere ---

// folded is the tag of nobody's cipher: of it a block is the one that it is handed, so that both masks are 0, and a tag is all blocks, put together.
func folded(name byte, m []byte) []byte {
	out := append(make([]byte, 15), name)
	for i, x := range m {
		out[i%16] ^= x
	}
	if len(m)%16 != 0 {
		out[len(m)%16] ^= 128
	}
	return out
}

func TestNobodysCipherPutsBlocksTogether(t *testing.T) {
	for k := range 70 {
		nonce, head, data := scattered(k, 76), scattered(k/2, 77), scattered(k, 78)
		n := folded(0, nonce)
		var stream []byte
		for at := n; len(stream) < k; at = octet.Inc(at) {
			stream = append(stream, at...)
		}
		wantCovered := octet.Xor(data, stream)
		want := octet.Xor(octet.Xor(n, folded(1, head)), folded(2, wantCovered))
		covered, tag := sealed(t, nil, nonce, head, data, 16)
		if !bytes.Equal(covered, wantCovered) || !bytes.Equal(tag, want) || !bytes.Equal(eax.Tag(nil, nonce, head, covered), want) {
			t.Fatalf("Seal of nobody's cipher and %d bytes: %x, %x, not %x, %x", k, covered, tag, wantCovered, want)
		}
		mustUnseal(t, nil, nonce, head, covered, tag, data)
		tag[15] ^= 1
		mustNot(t, nil, nonce, head, covered, tag)
	}
}

func TestWhatNewDidNotMakePanicsNowhere(t *testing.T) {
	c := new(aes.Cipher)
	for _, k := range sizes() {
		x := scattered(k, 79)
		for _, n := range append(notSizes(), 1, 8, 16) {
			eax.Seal(c, x, x, x, n)
		}
		eax.Unseal(c, x, x, x, x)
		eax.Unseal(c, x, x, x, eax.Tag(c, x, x, x))
	}
}

func TestWhatIsGivenIsNotChanged(t *testing.T) {
	c := opened(t, someKey(16))
	for k := range 40 {
		// What lies behind the lengths is looked at, too.
		var long, kept, x [4][]byte
		for i := range long {
			long[i] = scattered(k+40, uint64(i))
			kept[i], x[i] = bytes.Clone(long[i]), long[i][:k]
		}
		covered, tag := sealed(t, c, x[0], x[1], x[2], 16)
		eax.Tag(c, x[0], x[1], x[2])
		eax.Unseal(c, x[0], x[1], x[2], x[3])
		keptCovered, keptTag := bytes.Clone(covered), bytes.Clone(tag)
		mustUnseal(t, c, x[0], x[1], covered, tag, x[2])
		if !bytes.Equal(covered, keptCovered) || !bytes.Equal(tag, keptTag) {
			t.Fatalf("what is unsealed, of %d bytes, is changed", k)
		}
		for i := range long {
			if !bytes.Equal(long[i], kept[i]) {
				t.Fatalf("the part %d, of %d bytes, is changed", i, k)
			}
		}
	}
}

func TestLengthsCountAndNotWhatLiesBehind(t *testing.T) {
	c := opened(t, someKey(16))
	for k := range 40 {
		nonce, head, data := scattered(k+40, 80)[:k], scattered(k+40, 81)[:k], scattered(k+40, 82)[:k]
		wantCovered, want := sealed(t, c, bytes.Clone(nonce), bytes.Clone(head), bytes.Clone(data), 16)
		covered, tag := sealed(t, c, nonce, head, data, 16)
		if !bytes.Equal(covered, wantCovered) || !bytes.Equal(tag, want) {
			t.Fatalf("what lies behind %d bytes counts", k)
		}
		behind := append(bytes.Clone(covered), 1, 2, 3)[:k]
		if !bytes.Equal(eax.Tag(c, nonce, head, behind), want) {
			t.Fatalf("what lies behind %d bytes that are covered counts", k)
		}
		mustUnseal(t, c, nonce, head, behind, append(bytes.Clone(tag), 1, 2, 3)[:16], data)
		// Room for a tag is none.
		if got, ok, e := eax.Unseal(c, nonce, head, covered, tag[:0]); e != api.ErrLen || ok || len(got) != 0 {
			t.Fatalf("what lies behind a tag of %d bytes counts", k)
		}
	}
}

func TestWhatIsToldIsNewMemory(t *testing.T) {
	c, nonce, head, data := opened(t, someKey(16)), scattered(16, 83), scattered(8, 84), scattered(40, 85)
	covered, tag := sealed(t, c, nonce, head, data, 16)
	for name, tell := range map[string]func() []byte{
		"covered": func() []byte { x, _, _ := eax.Seal(c, nonce, head, data, 16); return x },
		"tag":     func() []byte { _, x, _ := eax.Seal(c, nonce, head, data, 16); return x },
		"cut tag": func() []byte { _, x, _ := eax.Seal(c, nonce, head, data, 5); return x },
		"data":    func() []byte { x, _, _ := eax.Unseal(c, nonce, head, covered, tag); return x },
		"Tag":     func() []byte { return eax.Tag(c, nonce, head, covered) },
	} {
		told := tell()
		want := bytes.Clone(told)
		for _, x := range told[len(told):cap(told)] {
			if x != 0 {
				t.Fatalf("%s hands out what lies behind", name)
			}
		}
		clear(told[:cap(told)])
		if !bytes.Equal(tell(), want) {
			t.Fatalf("%s: what is told shares memory with what is told later", name)
		}
	}
	for i, x := range [][]byte{nonce, head, data} {
		if !bytes.Equal(x, scattered(len(x), uint64(83+i))) {
			t.Errorf("what is told shares memory with the part %d", i)
		}
	}
	if !bytes.Equal(eax.Tag(c, nonce, head, covered), tag) {
		t.Error("what is told shares memory with what was unsealed")
	}
}

func TestBothListsOfASealAreApart(t *testing.T) {
	c := opened(t, someKey(16))
	for _, k := range sizes() {
		for n := 1; n <= 16; n++ {
			covered, tag := sealed(t, c, scattered(16, 86), scattered(8, 87), scattered(k, 88), n)
			keptCovered, keptTag := bytes.Clone(covered), bytes.Clone(tag)
			clear(tag[:cap(tag)])
			if !bytes.Equal(covered, keptCovered) {
				t.Fatalf("with a tag of %d bytes what is covered, of %d, is changed", n, k)
			}
			copy(tag, keptTag)
			clear(covered[:cap(covered)])
			if !bytes.Equal(tag, keptTag) {
				t.Fatalf("with what is covered, of %d bytes, a tag of %d is changed", k, n)
			}
		}
	}
}

func TestDataInOnePieceOfMemory(t *testing.T) {
	// Parts may lie over one another: they are only read.
	key := someKey(16)
	c, m := opened(t, key), scattered(60, 89)
	for k := range 30 {
		wantCovered, want := library(t, key, m[k:k+16], m[:k], m[k/2:k+20])
		covered, tag := sealed(t, c, m[k:k+16], m[:k], m[k/2:k+20], 16)
		if !bytes.Equal(covered, wantCovered) || !bytes.Equal(tag, want) {
			t.Fatalf("parts that lie over one another: %x, %x, not %x, %x", covered, tag, wantCovered, want)
		}
	}
}

func TestManyAskAtOnce(t *testing.T) {
	key := someKey(16)
	c, nonce, head, data := opened(t, key), scattered(16, 90), scattered(8, 91), scattered(301, 92)
	wantCovered, want := library(t, key, nonce, head, data)
	var all sync.WaitGroup
	for i := range 16 {
		all.Go(func() {
			covered, tag, e := eax.Seal(c, nonce, head, data, i+1)
			if e != api.OK || !bytes.Equal(covered, wantCovered) || !bytes.Equal(tag, want[:i+1]) {
				t.Error("with others at once, a seal is another one")
			}
			got, ok, e := eax.Unseal(c, nonce, head, wantCovered, want[:i+1])
			if e != api.OK || !ok || !bytes.Equal(got, data) {
				t.Error("with others at once, a seal is not unsealed")
			}
		})
	}
	all.Wait()
}
