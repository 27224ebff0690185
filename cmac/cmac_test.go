package cmac_test

import (
	"bytes"
	libraryaes "crypto/aes"
	"crypto/cipher"
	"encoding/hex"
	"math/big"
	"sync"
	"testing"

	"visor/aes"
	"visor/api"
	"visor/cmac"
	"visor/octet"
)

// scattered is n bytes, such as a rule of numbers scatters.
func scattered(n int, seed uint64) []byte {
	out := make([]byte, n)
	for i := range out {
		seed = seed*6364136223846793005 + 1442695040888963407
		out[i] = byte(seed >> 56)
	}
	return out
}

// decoded is bytes that are written as hexadecimal digits.
func decoded(t *testing.T, text string) []byte {
	t.Helper()
	b, err := hex.DecodeString(text)
	if err != nil {
		t.Fatal(err)
	}
	return b
}

// someKey is a key of n bytes.
func someKey(n int) []byte { return scattered(n, 77) }

// opened is a cipher with a key that must be one.
func opened(t *testing.T, key []byte) *aes.Cipher {
	t.Helper()
	c, e := aes.New(key)
	if e != api.OK {
		t.Fatalf("a key of %d bytes: %d", len(key), e)
	}
	return c
}

// doubled is 16 bytes, doubled as a polynomial by long numbers: the power 128 of x is x^7 + x^2 + x + 1.
func doubled(b []byte) []byte {
	twice := new(big.Int).Lsh(new(big.Int).SetBytes(b), 1)
	if twice.Bit(128) == 1 {
		modulus := new(big.Int).SetBit(big.NewInt(0b10000111), 128, 1)
		twice.Xor(twice, modulus)
	}
	return twice.FillBytes(make([]byte, 16))
}

// libraryCipher is the library's AES.
func libraryCipher(t *testing.T, key []byte) cipher.Block {
	t.Helper()
	c, err := libraryaes.NewCipher(key)
	if err != nil {
		t.Fatal(err)
	}
	return c
}

// libraryMasks is both masks of the library's AES.
func libraryMasks(t *testing.T, key []byte) ([]byte, []byte) {
	t.Helper()
	enciphered := make([]byte, 16)
	libraryCipher(t, key).Encrypt(enciphered, enciphered)
	first := doubled(enciphered)
	return first, doubled(first)
}

// library is a message's tag by the library's AES: the last block that its chain of blocks comes to.
func library(t *testing.T, key, m []byte) []byte {
	t.Helper()
	mask, second := libraryMasks(t, key)
	whole := bytes.Clone(m)
	if len(whole) == 0 || len(whole)%16 != 0 {
		mask = second
		whole = append(whole, 128)
		for len(whole)%16 != 0 {
			whole = append(whole, 0)
		}
	}
	last := len(whole) - 16
	for i := range 16 {
		whole[last+i] ^= mask[i]
	}
	cipher.NewCBCEncrypter(libraryCipher(t, key), make([]byte, 16)).CryptBlocks(whole, whole)
	return whole[last:]
}

// named is a message behind the block of its name.
func named(t byte, m []byte) []byte {
	return append(append(make([]byte, 15), t), m...)
}

// sizes are some lengths about blocks' ends.
func sizes() []int {
	return []int{0, 1, 2, 7, 8, 15, 16, 17, 31, 32, 33, 47, 48, 49, 64, 65, 255, 256, 257}
}

// written is a tag at work of pieces that were written, one behind the other.
func written(c *aes.Cipher, pieces ...[]byte) *cmac.Mac {
	work := cmac.New(c)
	for _, p := range pieces {
		work.Write(p)
	}
	return work
}

// --- P11.1 ---

// standardMessage is what the standard's tags are tags of, or of a part of it.
const standardMessage = "6bc1bee22e409f96e93d7e117393172aae2d8a571e03ac9c9eb76fac45af8e5130c81c46a35ce411e5fbc1191a0a52eff69f2445df4f9b17ad2b417be66c3710"

// standard is what SP 800-38B and RFC 4493 print: keys, both masks, and the tags of so many bytes.
func standard() []struct {
	key, first, second string
	tags               map[int]string
} {
	return []struct {
		key, first, second string
		tags               map[int]string
	}{
		{"2b7e151628aed2a6abf7158809cf4f3c", "fbeed618357133667c85e08f7236a8de", "f7ddac306ae266ccf90bc11ee46d513b", map[int]string{
			0: "bb1d6929e95937287fa37d129b756746", 16: "070a16b46b4d4144f79bdd9dd04a287c",
			40: "dfa66747de9ae63030ca32611497c827", 64: "51f0bebf7e3b9d92fc49741779363cfe"}},
		{"8e73b0f7da0e6452c810f32b809079e562f8ead2522c6b7b", "448a5b1c93514b273ee6439dd4daa296", "8914b63926a2964e7dcc873ba9b5452c", map[int]string{
			0: "d17ddf46adaacde531cac483de7a9367", 16: "9e99a7bf31e710900662f65e617c5184",
			40: "8a1de5be2eb31aad089a82e6ee908b0e", 64: "a1d5df0eed790f794d77589659f39a11"}},
		{"603deb1015ca71be2b73aef0857d77811f352c073b6108d72d9810a30914dff4", "cad1ed03299eedac2e9a99808621502f", "95a3da06533ddb585d3533010c42a0d9", map[int]string{
			0: "028962f61b7bf89efc6b551f4667d983", 16: "28a7023f452e8f82bd4bf28d8c37c35c",
			40: "aaf3d8f1de5640c232f5b169b9c911e6", 64: "e1992190549f6ed5696a2c056c315410"}},
	}
}

func TestMasksAndTagsOfTheStandard(t *testing.T) {
	m := decoded(t, standardMessage)
	for _, s := range standard() {
		c := opened(t, decoded(t, s.key))
		first, second := cmac.Masks(c)
		if !bytes.Equal(first, decoded(t, s.first)) || !bytes.Equal(second, decoded(t, s.second)) {
			t.Errorf("%s: Masks: %x, %x, not %s, %s", s.key, first, second, s.first, s.second)
		}
		for n, tag := range s.tags {
			want := decoded(t, tag)
			if got := cmac.Sum(c, m[:n]); !bytes.Equal(got, want) {
				t.Errorf("%s: Sum of %d bytes: %x, not %s", s.key, n, got, tag)
			}
			if got := written(c, m[:n]).Tag(); !bytes.Equal(got, want) {
				t.Errorf("%s: Tag of %d bytes: %x, not %s", s.key, n, got, tag)
			}
			if !cmac.Says(c, m[:n], want) {
				t.Errorf("%s: Says of %d bytes, and their tag: false", s.key, n)
			}
		}
	}
}

func TestMasksAreDoubles(t *testing.T) {
	// Of the block of 0s, and of its double, the highest bit decides: keys of all four kinds must have been asked.
	var kinds [4]int
	for seed := range uint64(60) {
		key := scattered([]int{16, 24, 32}[seed%3], seed)
		wantFirst, wantSecond := libraryMasks(t, key)
		first, second := cmac.Masks(opened(t, key))
		if !bytes.Equal(first, wantFirst) || !bytes.Equal(second, wantSecond) {
			t.Fatalf("Masks of the key %x: %x, %x, not %x, %x", key, first, second, wantFirst, wantSecond)
		}
		enciphered := make([]byte, 16)
		libraryCipher(t, key).Encrypt(enciphered, enciphered)
		kinds[2*(enciphered[0]>>7)+first[0]>>7]++
	}
	for kind, n := range kinds {
		if n == 0 {
			t.Errorf("no key's masks are of the kind %d", kind)
		}
	}
}

func TestTagsAreTheLibrarys(t *testing.T) {
	for _, size := range []int{16, 24, 32} {
		key := someKey(size)
		c := opened(t, key)
		for n := range 130 {
			m := scattered(n, uint64(n))
			want := library(t, key, m)
			if got := cmac.Sum(c, m); !bytes.Equal(got, want) {
				t.Fatalf("Sum of %x: %x, not %x", m, got, want)
			}
			if got := written(c, m).Tag(); !bytes.Equal(got, want) {
				t.Fatalf("Tag of %x: %x, not %x", m, got, want)
			}
		}
	}
}

func TestTagsOfLongMessages(t *testing.T) {
	key := someKey(16)
	c := opened(t, key)
	for _, n := range []int{4095, 4096, 4097, 65535, 65536, 65537, 300000} {
		m := scattered(n, uint64(n))
		want := library(t, key, m)
		if got := cmac.Sum(c, m); !bytes.Equal(got, want) {
			t.Errorf("Sum of %d bytes: %x, not %x", n, got, want)
		}
		if got := written(c, m[:n/3], m[n/3:]).Tag(); !bytes.Equal(got, want) {
			t.Errorf("Tag of %d bytes: %x, not %x", n, got, want)
		}
	}
}

func TestAMessageIsNotTheOneThatItIsFilledUpTo(t *testing.T) {
	c := opened(t, someKey(16))
	for n := range 16 {
		short := scattered(n, 1)
		full := append(append(bytes.Clone(short), 128), make([]byte, 15-n)...)
		if bytes.Equal(cmac.Sum(c, short), cmac.Sum(c, full)) {
			t.Errorf("%d bytes, and what they are filled up to, have one tag", n)
		}
	}
}

func TestNamedIsBehindItsName(t *testing.T) {
	key := someKey(16)
	c := opened(t, key)
	for name := range 256 {
		for _, n := range []int{0, 1, 15, 16, 17, 33} {
			m := scattered(n, uint64(name))
			got, want := cmac.Named(c, byte(name), m), library(t, key, named(byte(name), m))
			if !bytes.Equal(got, want) {
				t.Fatalf("Named of %d and %x: %x, not %x", name, m, got, want)
			}
			if !bytes.Equal(got, cmac.Sum(c, named(byte(name), m))) {
				t.Fatalf("Named of %d and %x is not Sum of both", name, m)
			}
		}
	}
	for _, size := range []int{24, 32} {
		for n := range 70 {
			key, m := someKey(size), scattered(n, 2)
			if got, want := cmac.Named(opened(t, key), 255, m), library(t, key, named(255, m)); !bytes.Equal(got, want) {
				t.Fatalf("Named of 255 and %x: %x, not %x", m, got, want)
			}
		}
	}
}

func TestNamesPartTags(t *testing.T) {
	c := opened(t, someKey(16))
	for _, n := range sizes() {
		m := scattered(n, 3)
		seen := map[string]int{string(cmac.Sum(c, m)): 256}
		for name := range 256 {
			tag := string(cmac.Named(c, byte(name), m))
			if other, ok := seen[tag]; ok {
				t.Fatalf("of %d bytes the names %d and %d have one tag", n, name, other)
			}
			seen[tag] = name
		}
	}
}

// --- P11.2 ---

func TestSaysEachBeginOfTheTag(t *testing.T) {
	for _, size := range []int{16, 24, 32} {
		key := someKey(size)
		c := opened(t, key)
		for _, n := range sizes() {
			m := scattered(n, 4)
			tag := library(t, key, m)
			for k := 1; k <= 16; k++ {
				if !cmac.Says(c, m, tag[:k]) {
					t.Fatalf("Says of %d bytes, and %d of their tag: false", n, k)
				}
			}
		}
	}
}

func TestSaysNoTagWithAnotherBit(t *testing.T) {
	key := someKey(16)
	c := opened(t, key)
	for _, n := range []int{0, 5, 16, 40, 48} {
		m := scattered(n, 5)
		tag := library(t, key, m)
		for k := 1; k <= 16; k++ {
			for bit := range 8 * k {
				wrong := bytes.Clone(tag[:k])
				wrong[bit/8] ^= 1 << (bit % 8)
				if cmac.Says(c, m, wrong) {
					t.Fatalf("Says of %d bytes, and %d of their tag with another bit %d: true", n, k, bit)
				}
			}
		}
	}
}

func TestSaysNoOtherPartOfTheTag(t *testing.T) {
	key := someKey(16)
	c, m := opened(t, key), scattered(20, 6)
	tag := library(t, key, m)
	for from := 1; from < 16; from++ {
		for to := from + 1; to <= 16; to++ {
			if !bytes.Equal(tag[from:to], tag[:to-from]) && cmac.Says(c, m, tag[from:to]) {
				t.Errorf("Says of a tag's bytes %d to %d: true", from, to)
			}
		}
	}
}

func TestSaysNoTagOfOtherLengths(t *testing.T) {
	key := someKey(16)
	c := opened(t, key)
	for _, n := range sizes() {
		m := scattered(n, 7)
		tag := library(t, key, m)
		if cmac.Says(c, m, nil) || cmac.Says(c, m, []byte{}) || cmac.Says(c, m, tag[:0]) {
			t.Errorf("Says of %d bytes, and none: true", n)
		}
		for more := 1; more < 50; more++ {
			// The first 16 bytes are right, and too many are there.
			if cmac.Says(c, m, append(bytes.Clone(tag), make([]byte, more)...)) {
				t.Errorf("Says of %d bytes, and their tag and %d bytes: true", n, more)
			}
		}
		if cmac.Says(c, m, append(bytes.Clone(tag), tag...)) || cmac.Says(c, m, make([]byte, 65536)) {
			t.Errorf("Says of %d bytes, and far too many: true", n)
		}
	}
}

func TestSaysNoTagOfOtherMessagesOrKeys(t *testing.T) {
	key := someKey(16)
	c, other := opened(t, key), opened(t, scattered(16, 78))
	for _, n := range []int{1, 15, 16, 17, 32, 40} {
		m := scattered(n, 8)
		tag := library(t, key, m)
		if cmac.Says(other, m, tag) {
			t.Fatalf("Says of another key, and %d bytes: true", n)
		}
		if cmac.Says(c, m[:n-1], tag) || cmac.Says(c, append(bytes.Clone(m), 0), tag) || cmac.Says(c, named(0, m), tag) {
			t.Fatalf("Says of another message than %d bytes: true", n)
		}
		for i := range m {
			wrong := bytes.Clone(m)
			wrong[i] ^= 1
			if cmac.Says(c, wrong, tag) {
				t.Fatalf("Says of %d bytes with another byte %d: true", n, i)
			}
		}
	}
}

func TestATagAtWorkOfNothingYet(t *testing.T) {
	for _, size := range []int{16, 24, 32} {
		key := someKey(size)
		c := opened(t, key)
		want := library(t, key, nil)
		for name, work := range map[string]*cmac.Mac{
			"new": cmac.New(c), "nothing written": written(c, nil), "nothing written twice": written(c, nil, []byte{}),
		} {
			if got := work.Tag(); !bytes.Equal(got, want) || work.Size() != 0 {
				t.Errorf("%s: %x, and %d bytes, not %x, and 0", name, got, work.Size(), want)
			}
		}
	}
}

func TestTagsAllAlong(t *testing.T) {
	key := someKey(16)
	c := opened(t, key)
	for _, step := range []int{1, 2, 3, 5, 15, 16, 17, 31, 32, 33, 48, 100} {
		m := scattered(200, uint64(step))
		work := cmac.New(c)
		for n := 0; ; n += step {
			// The tag is asked for twice, since to ask must change nothing.
			first, second := work.Tag(), work.Tag()
			if want := library(t, key, m[:n]); !bytes.Equal(first, want) || !bytes.Equal(second, want) {
				t.Fatalf("%d by %d, the tag of %d bytes is %x, then %x, not %x", step, step, n, first, second, want)
			}
			if work.Size() != n {
				t.Fatalf("%d by %d, %d bytes are %d", step, step, n, work.Size())
			}
			if n+step > len(m) {
				break
			}
			work.Write(m[n : n+step])
			work.Write(nil)
		}
	}
}

func TestWorkIsAsAModelHasIt(t *testing.T) {
	key := someKey(24)
	c := opened(t, key)
	for seed := range uint64(40) {
		var all []byte
		work := cmac.New(c)
		for i, x := range scattered(30, 100+seed) {
			switch x % 8 {
			case 0:
				if got, want := work.Tag(), library(t, key, all); !bytes.Equal(got, want) {
					t.Fatalf("seed %d, step %d: the tag of %d bytes is %x, not %x", seed, i, len(all), got, want)
				}
			case 1:
				work.Write(nil)
			case 2:
				all = append(all, make([]byte, 16)...)
				work.Write(make([]byte, 16))
			default:
				piece := scattered(int(x>>3), seed)
				all = append(all, piece...)
				work.Write(piece)
			}
			if work.Size() != len(all) {
				t.Fatalf("seed %d, step %d: %d bytes are %d", seed, i, len(all), work.Size())
			}
		}
		if got, want := work.Tag(), library(t, key, all); !bytes.Equal(got, want) {
			t.Fatalf("seed %d: the tag of %d bytes is %x, not %x", seed, len(all), got, want)
		}
	}
}

func TestNobodysWork(t *testing.T) {
	var nobody *cmac.Mac
	for range 2 {
		if tag := nobody.Tag(); len(tag) != 0 {
			t.Errorf("nobody's tag: %x", tag)
		}
		if nobody.Size() != 0 {
			t.Errorf("nobody's size: %d", nobody.Size())
		}
		nobody.Write(nil)
		nobody.Write([]byte{1})
		nobody.Write(make([]byte, 100))
	}
}

func TestTwoAtWorkAreApart(t *testing.T) {
	key, otherKey := someKey(16), scattered(32, 79)
	c, d := opened(t, key), opened(t, otherKey)
	works := []*cmac.Mac{cmac.New(c), cmac.New(c), cmac.New(d)}
	keys := [][]byte{key, key, otherKey}
	all := make([][]byte, len(works))
	for turn := range 60 {
		i := turn % len(works)
		piece := scattered(turn, uint64(turn))
		works[i].Write(piece)
		all[i] = append(all[i], piece...)
		for k, work := range works {
			if !bytes.Equal(work.Tag(), library(t, keys[k], all[k])) || work.Size() != len(all[k]) {
				t.Fatalf("behind %d turns, the tag at work %d is another one", turn, k)
			}
		}
	}
}

// --- P11.3 ---

func TestTheTagOfOneBlock(t *testing.T) {
	for _, size := range []int{16, 24, 32} {
		c := opened(t, someKey(size))
		first, _ := cmac.Masks(c)
		for seed := range uint64(20) {
			b := scattered(16, seed)
			want := c.Block([16]byte(octet.Xor(b, first)))
			if got := cmac.Sum(c, b); !bytes.Equal(got, want[:]) {
				t.Fatalf("Sum of the block %x: %x, not %x", b, got, want)
			}
		}
	}
}

func TestALongerMessageGoesOnFromTheShorterOne(t *testing.T) {
	for _, size := range []int{16, 24, 32} {
		c := opened(t, someKey(size))
		first, second := cmac.Masks(c)
		for blocks := 1; blocks < 12; blocks++ {
			m := scattered(16*blocks, uint64(blocks))
			// Where the shorter one is without its last mask: that mask is taken out again ahead of the last enciphering.
			ahead := c.Unblock([16]byte(cmac.Sum(c, m)))
			there := c.Block([16]byte(octet.Xor(ahead[:], first)))
			for n := 1; n <= 16; n++ {
				more := scattered(n, uint64(n))
				last, mask := more, first
				if n < 16 {
					last, mask = append(append(bytes.Clone(more), 128), make([]byte, 15-n)...), second
				}
				want := c.Block([16]byte(octet.Xor(octet.Xor(there[:], last), mask)))
				if got := cmac.Sum(c, append(bytes.Clone(m), more...)); !bytes.Equal(got, want[:]) {
					t.Fatalf("of %d blocks and %d bytes: %x, not %x", blocks, n, got, want)
				}
			}
		}
	}
}

func TestHoweverAMessageIsCutItsTagIsOne(t *testing.T) {
	c := opened(t, someKey(16))
	for _, n := range []int{0, 1, 15, 16, 17, 31, 32, 33, 47, 48, 50} {
		m := scattered(n, 9)
		want := cmac.Sum(c, m)
		for i := range n + 1 {
			for j := i; j <= n; j++ {
				work := written(c, m[:i], m[i:j], m[j:])
				if got := work.Tag(); !bytes.Equal(got, want) || work.Size() != n {
					t.Fatalf("%d bytes, cut at %d and %d: %x of %d, not %x", n, i, j, got, work.Size(), want)
				}
			}
		}
	}
}

func TestWrittenInStepsItsTagIsOne(t *testing.T) {
	c, m := opened(t, someKey(32)), scattered(3000, 10)
	want := cmac.Sum(c, m)
	for step := 1; step < 70; step++ {
		work := cmac.New(c)
		for from := 0; from < len(m); from += step {
			work.Write(m[from:min(from+step, len(m))])
		}
		if got := work.Tag(); !bytes.Equal(got, want) || work.Size() != len(m) {
			t.Fatalf("written %d by %d: %x of %d, not %x", step, step, got, work.Size(), want)
		}
	}
}

// --- What holds everywhere ---

func TestNobodysCipherPutsBlocksTogether(t *testing.T) {
	// Of nobody's cipher a block is the one that it is handed: so that both masks are 0, and a tag is all blocks, put together.
	first, second := cmac.Masks(nil)
	if !bytes.Equal(first, make([]byte, 16)) || !bytes.Equal(second, make([]byte, 16)) {
		t.Errorf("Masks of nobody's cipher: %x, %x", first, second)
	}
	for n := range 70 {
		m := scattered(n, 11)
		want := make([]byte, 16)
		for i, x := range m {
			want[i%16] ^= x
		}
		if n == 0 || n%16 != 0 {
			want[n%16] ^= 128
		}
		if got := cmac.Sum(nil, m); !bytes.Equal(got, want) {
			t.Fatalf("Sum of nobody's cipher and %x: %x, not %x", m, got, want)
		}
		if got := written(nil, m).Tag(); !bytes.Equal(got, want) || !cmac.Says(nil, m, want) {
			t.Fatalf("Tag of nobody's cipher and %x: %x, not %x", m, got, want)
		}
		if got := cmac.Named(nil, 0, m); n > 0 && !bytes.Equal(got, want) {
			t.Fatalf("Named of nobody's cipher and %x: %x, not %x", m, got, want)
		}
	}
}

func TestWhatNewDidNotMakePanicsNowhere(t *testing.T) {
	c := new(aes.Cipher)
	cmac.Masks(c)
	for _, n := range sizes() {
		m := scattered(n, 12)
		cmac.Sum(c, m)
		cmac.Named(c, 1, m)
		cmac.Says(c, m, m)
		written(c, m, m).Tag()
		work := new(cmac.Mac)
		work.Tag()
		work.Write(m)
		work.Write(m)
		work.Tag()
		work.Size()
	}
}

func TestWhatIsGivenIsNotChanged(t *testing.T) {
	c := opened(t, someKey(16))
	for n := range 70 {
		// What lies behind the lengths is looked at, too: a block that is filled up must not be filled up there.
		longM, longTag := bytes.Repeat([]byte{1}, n+40), bytes.Repeat([]byte{2}, n+40)
		keptM, keptTag := bytes.Clone(longM), bytes.Clone(longTag)
		m, tag := longM[:n], longTag[:n]
		cmac.Sum(c, m)
		cmac.Named(c, 3, m)
		cmac.Says(c, m, tag)
		work := written(c, m)
		work.Tag()
		work.Write(m)
		work.Tag()
		if !bytes.Equal(longM, keptM) || !bytes.Equal(longTag, keptTag) {
			t.Fatalf("a message of %d bytes, or a tag, is changed", n)
		}
	}
}

func TestLengthsCountAndNotWhatLiesBehind(t *testing.T) {
	c := opened(t, someKey(16))
	for n := range 70 {
		long := scattered(n+40, 13)
		m := long[:n]
		alone := bytes.Clone(m)
		if !bytes.Equal(cmac.Sum(c, m), cmac.Sum(c, alone)) || !bytes.Equal(cmac.Named(c, 1, m), cmac.Named(c, 1, alone)) {
			t.Fatalf("what lies behind %d bytes counts", n)
		}
		if work := written(c, m); !bytes.Equal(work.Tag(), cmac.Sum(c, alone)) || work.Size() != n {
			t.Fatalf("what lies behind %d bytes that were written counts", n)
		}
		// Room for a tag is none.
		if cmac.Says(c, m, cmac.Sum(c, m)[:0]) {
			t.Fatalf("what lies behind a tag of %d bytes counts", n)
		}
	}
}

func TestWhatWasWrittenIsNotKeptWithItsOwner(t *testing.T) {
	key := someKey(16)
	c := opened(t, key)
	for n := range 70 {
		m := scattered(2*n, 14)
		buffer := bytes.Clone(m[:n])
		work := cmac.New(c)
		work.Write(buffer)
		copy(buffer, m[n:])
		if got, want := work.Tag(), library(t, key, m[:n]); !bytes.Equal(got, want) {
			t.Fatalf("%d bytes that were changed when they had been written: %x, not %x", n, got, want)
		}
		work.Write(buffer)
		clear(buffer)
		if got, want := work.Tag(), library(t, key, m); !bytes.Equal(got, want) {
			t.Fatalf("twice %d bytes that were changed when they had been written: %x, not %x", n, got, want)
		}
	}
}

func TestWhatIsToldIsNewMemory(t *testing.T) {
	c, m := opened(t, someKey(16)), scattered(40, 15)
	work, full := written(c, m), written(c, m[:32])
	first := func() []byte { x, _ := cmac.Masks(c); return x }
	second := func() []byte { _, x := cmac.Masks(c); return x }
	for name, tell := range map[string]func() []byte{
		"first mask": first, "second mask": second, "Tag": work.Tag, "Tag of full blocks": full.Tag,
		"Sum":   func() []byte { return cmac.Sum(c, m) },
		"Named": func() []byte { return cmac.Named(c, 1, m) },
	} {
		told := tell()
		want := bytes.Clone(told)
		if len(told) != 16 {
			t.Fatalf("%s: %d bytes", name, len(told))
		}
		for i := range told {
			told[i] ^= 255
		}
		if !bytes.Equal(tell(), want) {
			t.Fatalf("%s: what is told shares memory with what is told later", name)
		}
		for _, x := range told[16:cap(told)] {
			if x != 0 {
				t.Fatalf("%s hands out what lies behind", name)
			}
		}
	}
	if !bytes.Equal(m, scattered(40, 15)) {
		t.Error("what is told shares memory with what was given")
	}
	// Both masks are two lists of one answer.
	one, other := cmac.Masks(c)
	kept := bytes.Clone(other)
	clear(one[:cap(one)])
	if !bytes.Equal(other, kept) {
		t.Error("both masks share memory")
	}
}

func TestManyAskAtOnce(t *testing.T) {
	key := someKey(16)
	c, m := opened(t, key), scattered(501, 16)
	want := library(t, key, m)
	work := written(c, m)
	var all sync.WaitGroup
	for i := range 16 {
		all.Go(func() {
			mine := written(c, m[:i], m[i:])
			if !bytes.Equal(cmac.Sum(c, m), want) || !bytes.Equal(mine.Tag(), want) || !bytes.Equal(work.Tag(), want) || !cmac.Says(c, m, want[:i+1]) {
				t.Error("with others at once, a tag is another one")
			}
		})
	}
	all.Wait()
}
