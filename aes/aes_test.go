package aes_test

import (
	"bytes"
	libraryaes "crypto/aes"
	"crypto/cipher"
	"encoding/hex"
	"sync"
	"testing"

	"visor/aes"
	"visor/api"
	"visor/gf"
	"visor/keys"
	"visor/sbox"
)

// product is AES's field's, told by long multiplication and long division of polynomials.
func product(a, b byte) byte {
	wide := 0
	for i := range 8 {
		if b>>i&1 == 1 {
			wide ^= int(a) << i
		}
	}
	for i := 14; i >= 8; i-- {
		if wide>>i&1 == 1 {
			wide ^= 283 << (i - 8)
		}
	}
	return byte(wide)
}

// mixed is a block of which each column is turned by a matrix, of which each row is the first one, moved on.
func mixed(b [16]byte, first [4]byte) [16]byte {
	var out [16]byte
	for c := range 4 {
		for r := range 4 {
			for k := range 4 {
				out[r+4*c] ^= product(first[(k-r+4)%4], b[k+4*c])
			}
		}
	}
	return out
}

// together is two blocks, put together bit by bit.
func together(a, b [16]byte) [16]byte {
	for i := range a {
		a[i] ^= b[i]
	}
	return a
}

// scatter tells bytes, one after the other, such as a rule of numbers scatters.
func scatter(state uint64) func() byte {
	return func() byte {
		state = state*6364136223846793005 + 1442695040888963407
		return byte(state >> 56)
	}
}

// someKey is a key of n bytes that are scattered.
func someKey(n int, seed uint64) []byte {
	next, key := scatter(seed), make([]byte, n)
	for i := range key {
		key[i] = next()
	}
	return key
}

// only is the block that has x in place i, and 0 in all others.
func only(i, x int) [16]byte {
	var b [16]byte
	b[i] = byte(x)
	return b
}

// someBlocks are blocks: each byte in each place, all bytes alike, columns and rows alike, and scattered ones.
func someBlocks() [][16]byte {
	var list [][16]byte
	for i := range 16 {
		for x := range 256 {
			list = append(list, only(i, x))
		}
	}
	next := scatter(7)
	for x := range 256 {
		var alike, column, row, two, scattered [16]byte
		for i := range alike {
			alike[i], column[i], row[i] = byte(x), byte(x*(i/4+1)), byte(x*(i%4+1))
			two[i], scattered[i] = byte(x*(i%2+1)), next()
		}
		list = append(list, alike, column, row, two, scattered)
	}
	return list
}

// fewBlocks are some of them.
func fewBlocks() [][16]byte {
	var list [][16]byte
	for i, b := range someBlocks() {
		if i%97 == 0 {
			list = append(list, b)
		}
	}
	return list
}

// opened is a cipher with a key that must be one.
func opened(t *testing.T, key []byte) *aes.Cipher {
	t.Helper()
	c, e := aes.New(key)
	if e != api.OK || c == nil {
		t.Fatalf("New of %x: %d", key, e)
	}
	return c
}

// library is the library's cipher with a key.
func library(t *testing.T, key []byte) cipher.Block {
	t.Helper()
	c, err := libraryaes.NewCipher(key)
	if err != nil {
		t.Fatal(err)
	}
	return c
}

// decoded is bytes that are written as hexadecimal digits.
func decoded(t *testing.T, text string) []byte {
	t.Helper()
	b, err := hex.DecodeString(text)
	if err != nil {
		t.Fatal(err)
	}
	return b
}

// counted is the block of the bytes 0 to 15.
func counted() [16]byte {
	var b [16]byte
	for i := range b {
		b[i] = byte(i)
	}
	return b
}

// --- P9.1 ---

func TestRows(t *testing.T) {
	if got, want := aes.Rows(counted()), ([16]byte{0, 5, 10, 15, 4, 9, 14, 3, 8, 13, 2, 7, 12, 1, 6, 11}); got != want {
		t.Errorf("Rows: %v, not %v", got, want)
	}
	if got, want := aes.BackRows(counted()), ([16]byte{0, 13, 10, 7, 4, 1, 14, 11, 8, 5, 2, 15, 12, 9, 6, 3}); got != want {
		t.Errorf("BackRows: %v, not %v", got, want)
	}
}

func TestRowsMoveEachByteAlone(t *testing.T) {
	for r := range 4 {
		for c := range 4 {
			for x := range 256 {
				here, there := only(r+4*c, x), only(r+4*((c-r+4)%4), x)
				if got := aes.Rows(here); got != there {
					t.Fatalf("Rows of %d in row %d and column %d: %v", x, r, c, got)
				}
				if got := aes.BackRows(there); got != here {
					t.Fatalf("BackRows of %d in row %d and column %d: %v", x, r, (c-r+4)%4, got)
				}
			}
		}
	}
}

func TestBackRowsIsTheOpposite(t *testing.T) {
	for _, b := range someBlocks() {
		if aes.BackRows(aes.Rows(b)) != b || aes.Rows(aes.BackRows(b)) != b {
			t.Fatalf("%v, its rows moved there and back, is another one", b)
		}
	}
}

func TestColumnsOfKnownColumns(t *testing.T) {
	for _, c := range []struct{ from, to [4]byte }{
		{[4]byte{0, 0, 0, 0}, [4]byte{0, 0, 0, 0}},
		{[4]byte{1, 1, 1, 1}, [4]byte{1, 1, 1, 1}},
		{[4]byte{1, 0, 0, 0}, [4]byte{2, 1, 1, 3}},
		{[4]byte{128, 0, 0, 0}, [4]byte{27, 128, 128, 155}},
		{[4]byte{219, 19, 83, 69}, [4]byte{142, 77, 161, 188}},
		{[4]byte{242, 10, 34, 92}, [4]byte{159, 220, 88, 157}},
		{[4]byte{198, 198, 198, 198}, [4]byte{198, 198, 198, 198}},
		{[4]byte{212, 212, 212, 213}, [4]byte{213, 213, 215, 214}},
		{[4]byte{45, 38, 49, 76}, [4]byte{77, 126, 189, 248}},
		{[4]byte{212, 191, 93, 48}, [4]byte{4, 102, 129, 229}},
	} {
		for place := range 4 {
			var from, to [16]byte
			copy(from[4*place:], c.from[:])
			copy(to[4*place:], c.to[:])
			if got := aes.Columns(from); got != to {
				t.Errorf("Columns of %v: %v, not %v", from, got, to)
			}
			if got := aes.BackColumns(to); got != from {
				t.Errorf("BackColumns of %v: %v, not %v", to, got, from)
			}
		}
	}
}

func TestColumnsOfManyBlocks(t *testing.T) {
	for _, b := range someBlocks() {
		if got, want := aes.Columns(b), mixed(b, [4]byte{2, 3, 1, 1}); got != want {
			t.Fatalf("Columns of %v: %v, not %v", b, got, want)
		}
		if got, want := aes.BackColumns(b), mixed(b, [4]byte{14, 11, 13, 9}); got != want {
			t.Fatalf("BackColumns of %v: %v, not %v", b, got, want)
		}
	}
}

func TestColumnsAreTheFieldsProducts(t *testing.T) {
	for _, b := range someBlocks() {
		var want [16]byte
		for i := range b {
			c := i / 4 * 4
			want[i] = gf.Mul(2, b[i]) ^ gf.Mul(3, b[c+(i+1)%4]) ^ b[c+(i+2)%4] ^ b[c+(i+3)%4]
		}
		if got := aes.Columns(b); got != want {
			t.Fatalf("Columns of %v: %v, not %v", b, got, want)
		}
	}
}

func TestBackColumnsIsTheOpposite(t *testing.T) {
	for _, b := range someBlocks() {
		if aes.BackColumns(aes.Columns(b)) != b || aes.Columns(aes.BackColumns(b)) != b {
			t.Fatalf("%v, its columns mixed there and back, is another one", b)
		}
	}
}

func TestBackColumnsOfBlocksThatComeRoundEarly(t *testing.T) {
	// A column of bytes alike is mixed into itself, and one of two by two comes round after two: beside others, these must not be taken for all.
	next := scatter(3)
	for range 1000 {
		a, b := next(), next()
		quiet, turn, other := [4]byte{a, a, a, a}, [4]byte{a, b, a, b}, [4]byte{a, b, next(), next()}
		for _, four := range [][4][4]byte{
			{quiet, quiet, quiet, quiet}, {turn, turn, turn, turn}, {quiet, turn, quiet, turn},
			{quiet, quiet, quiet, other}, {turn, quiet, other, turn}, {other, turn, quiet, quiet},
		} {
			var block [16]byte
			for c, column := range four {
				copy(block[4*c:], column[:])
			}
			if got, want := aes.BackColumns(block), mixed(block, [4]byte{14, 11, 13, 9}); got != want {
				t.Fatalf("BackColumns of %v: %v, not %v", block, got, want)
			}
		}
	}
}

// --- P9.2 ---

func TestBlocksOfTheStandard(t *testing.T) {
	// These are FIPS 197's and SP 800-38A's.
	for _, c := range []struct{ key, plain, sealed string }{
		{"000102030405060708090a0b0c0d0e0f", "00112233445566778899aabbccddeeff", "69c4e0d86a7b0430d8cdb78070b4c55a"},
		{"000102030405060708090a0b0c0d0e0f1011121314151617", "00112233445566778899aabbccddeeff", "dda97ca4864cdfe06eaf70a0ec0d7191"},
		{"000102030405060708090a0b0c0d0e0f101112131415161718191a1b1c1d1e1f", "00112233445566778899aabbccddeeff", "8ea2b7ca516745bfeafc49904b496089"},
		{"2b7e151628aed2a6abf7158809cf4f3c", "3243f6a8885a308d313198a2e0370734", "3925841d02dc09fbdc118597196a0b32"},
		{"2b7e151628aed2a6abf7158809cf4f3c", "6bc1bee22e409f96e93d7e117393172a", "3ad77bb40d7a3660a89ecaf32466ef97"},
		{"2b7e151628aed2a6abf7158809cf4f3c", "ae2d8a571e03ac9c9eb76fac45af8e51", "f5d3d58503b9699de785895a96fdbaaf"},
		{"2b7e151628aed2a6abf7158809cf4f3c", "30c81c46a35ce411e5fbc1191a0a52ef", "43b1cd7f598ece23881b00e3ed030688"},
		{"2b7e151628aed2a6abf7158809cf4f3c", "f69f2445df4f9b17ad2b417be66c3710", "7b0c785e27e8ad3f8223207104725dd4"},
		{"8e73b0f7da0e6452c810f32b809079e562f8ead2522c6b7b", "6bc1bee22e409f96e93d7e117393172a", "bd334f1d6e45f25ff712a214571fa5cc"},
		{"8e73b0f7da0e6452c810f32b809079e562f8ead2522c6b7b", "ae2d8a571e03ac9c9eb76fac45af8e51", "974104846d0ad3ad7734ecb3ecee4eef"},
		{"603deb1015ca71be2b73aef0857d77811f352c073b6108d72d9810a30914dff4", "6bc1bee22e409f96e93d7e117393172a", "f3eed1bdb5d2a03c064b5a7e3db181f8"},
		{"603deb1015ca71be2b73aef0857d77811f352c073b6108d72d9810a30914dff4", "ae2d8a571e03ac9c9eb76fac45af8e51", "591ccb10d410ed26dc5ba74a31362870"},
	} {
		keyed := opened(t, decoded(t, c.key))
		plain, sealed := [16]byte(decoded(t, c.plain)), [16]byte(decoded(t, c.sealed))
		if got := keyed.Block(plain); got != sealed {
			t.Errorf("%s: Block of %s: %x, not %s", c.key, c.plain, got, c.sealed)
		}
		if got := keyed.Unblock(sealed); got != plain {
			t.Errorf("%s: Unblock of %s: %x, not %s", c.key, c.sealed, got, c.plain)
		}
	}
}

func TestBlocksAreTheLibrarys(t *testing.T) {
	for _, n := range []int{16, 24, 32} {
		for seed := range uint64(30) {
			key := someKey(n, seed)
			c, other := opened(t, key), library(t, key)
			for _, b := range fewBlocks() {
				var sealed, plain [16]byte
				other.Encrypt(sealed[:], b[:])
				other.Decrypt(plain[:], b[:])
				if got := c.Block(b); got != sealed {
					t.Fatalf("%x: Block of %x: %x, not %x", key, b, got, sealed)
				}
				if got := c.Unblock(b); got != plain {
					t.Fatalf("%x: Unblock of %x: %x, not %x", key, b, got, plain)
				}
			}
		}
	}
}

func TestKeysOfOneBit(t *testing.T) {
	for _, n := range []int{16, 24, 32} {
		for i := range 8 * n {
			key := make([]byte, n)
			key[i/8] = 1 << (i % 8)
			c, other := opened(t, key), library(t, key)
			var want [16]byte
			other.Encrypt(want[:], want[:])
			if got := c.Block([16]byte{}); got != want {
				t.Fatalf("%x: Block of nothing: %x, not %x", key, got, want)
			}
			if got := c.Unblock(want); got != [16]byte{} {
				t.Fatalf("%x: Unblock of %x: %x", key, want, got)
			}
		}
	}
}

func TestAChainOfBlocks(t *testing.T) {
	for _, n := range []int{16, 24, 32} {
		key := someKey(n, 99)
		c, other := opened(t, key), library(t, key)
		var b, want [16]byte
		for range 1000 {
			b = c.Block(b)
			other.Encrypt(want[:], want[:])
		}
		if b != want {
			t.Fatalf("%x: enciphered a thousand times: %x, not %x", key, b, want)
		}
		for range 1000 {
			b = c.Unblock(b)
		}
		if b != [16]byte{} {
			t.Fatalf("%x: enciphered and deciphered a thousand times: %x", key, b)
		}
	}
}

// roundByRound is a block that is enciphered as the chapter tells it, of the calls that it names.
func roundByRound(t *testing.T, key []byte, b [16]byte) [16]byte {
	t.Helper()
	list, e := keys.Expand(key)
	if e != api.OK {
		t.Fatal(e)
	}
	box, rounds := sbox.New(), keys.Rounds(len(key))
	b = together(b, [16]byte(list[0]))
	for r := 1; r <= rounds; r++ {
		for i := range b {
			b[i] = box.Sub(b[i])
		}
		b = aes.Rows(b)
		if r < rounds {
			b = aes.Columns(b)
		}
		b = together(b, [16]byte(list[r]))
	}
	return b
}

func TestBlockGoesThroughTheRoundsAsTold(t *testing.T) {
	for _, n := range []int{16, 24, 32} {
		key := someKey(n, 5)
		c := opened(t, key)
		for _, b := range fewBlocks() {
			want := roundByRound(t, key, b)
			if got := c.Block(b); got != want {
				t.Fatalf("%x: Block of %x: %x, not %x", key, b, got, want)
			}
			if got := c.Unblock(want); got != b {
				t.Fatalf("%x: Unblock of %x: %x, not %x", key, want, got, b)
			}
		}
	}
}

func TestNewOfNoKey(t *testing.T) {
	lengths := []int{255, 256, 272, 280, 288, 1 << 16, 1<<16 + 16, 1<<16 + 24, 1<<16 + 32}
	for n := range 200 {
		if n != 16 && n != 24 && n != 32 {
			lengths = append(lengths, n)
		}
	}
	for _, n := range lengths {
		c, e := aes.New(make([]byte, n))
		if _, want := keys.Expand(make([]byte, n)); e != want || e != api.ErrLen || c != nil {
			t.Errorf("New of %d bytes: %d, and a cipher: %t", n, e, c != nil)
		}
	}
	if c, e := aes.New(nil); e != api.ErrLen || c != nil {
		t.Errorf("New of no list: %d, and a cipher: %t", e, c != nil)
	}
}

func TestLengthCountsAndNotWhatLiesBehind(t *testing.T) {
	long := someKey(64, 1)
	kept := bytes.Clone(long)
	for _, n := range []int{16, 24, 32} {
		c, alone := opened(t, long[:n]), opened(t, bytes.Clone(long[:n]))
		for _, b := range fewBlocks() {
			if c.Block(b) != alone.Block(b) || c.Unblock(b) != alone.Unblock(b) {
				t.Fatalf("%d bytes of a longer list are another key than these alone", n)
			}
		}
		if !bytes.Equal(long, kept) {
			t.Fatalf("%d bytes of a longer list: what was given is changed", n)
		}
	}
}

func TestAKeyThatIsChangedLaterChangesNothing(t *testing.T) {
	for _, n := range []int{16, 24, 32} {
		key := someKey(n, 2)
		kept := bytes.Clone(key)
		c := opened(t, key)
		if !bytes.Equal(key, kept) {
			t.Fatalf("%x is changed", kept)
		}
		for i := range key {
			key[i] ^= 255
		}
		// Asked first now, so that nothing may be worked out of the key this late.
		b := counted()
		var want [16]byte
		library(t, kept).Encrypt(want[:], b[:])
		if c.Block(b) != want || c.Unblock(want) != b {
			t.Fatalf("a cipher with %x changes with its key", kept)
		}
	}
}

func TestNobodysCipher(t *testing.T) {
	var c *aes.Cipher
	for _, b := range someBlocks() {
		if c.Block(b) != b || c.Unblock(b) != b {
			t.Fatalf("%x of nobody's cipher: %x and %x", b, c.Block(b), c.Unblock(b))
		}
	}
}

func TestCiphersThatNewDidNotMakePanicNowhere(t *testing.T) {
	c := new(aes.Cipher)
	c.Block(counted())
	c.Unblock(counted())
}

func TestWhatIsAskedBetweenChangesNothing(t *testing.T) {
	first, second := opened(t, someKey(16, 3)), opened(t, someKey(32, 4))
	b := counted()
	one, two := first.Block(b), second.Unblock(b)
	for _, other := range fewBlocks() {
		first.Unblock(other)
		second.Block(other)
		if first.Block(b) != one || second.Unblock(b) != two || b != counted() {
			t.Fatalf("asked again behind %x, both ciphers tell another block", other)
		}
	}
}

func TestManyEncipherAtOnce(t *testing.T) {
	for _, n := range []int{16, 24, 32} {
		key := someKey(n, 6)
		c := opened(t, key)
		b := counted()
		var sealed, plain [16]byte
		library(t, key).Encrypt(sealed[:], b[:])
		library(t, key).Decrypt(plain[:], b[:])
		var all sync.WaitGroup
		for i := range 16 {
			all.Go(func() {
				if i%2 == 0 && c.Block(b) != sealed || c.Unblock(b) != plain || c.Block(b) != sealed {
					t.Errorf("%x, with others at once: another block", key)
				}
			})
		}
		all.Wait()
	}
}

// --- P9.3 ---

func TestWhatIsEncipheredIsDeciphered(t *testing.T) {
	for _, n := range []int{16, 24, 32} {
		key := someKey(n, 8)
		c := opened(t, key)
		for _, b := range someBlocks() {
			if c.Unblock(c.Block(b)) != b || c.Block(c.Unblock(b)) != b {
				t.Fatalf("%x: %x, enciphered and deciphered, is another one", key, b)
			}
		}
	}
}

func TestColumnsFourTimesIsNothing(t *testing.T) {
	for _, b := range someBlocks() {
		three := aes.Columns(aes.Columns(aes.Columns(b)))
		if aes.Columns(three) != b {
			t.Fatalf("Columns, four times, of %v: %v", b, aes.Columns(three))
		}
		if aes.BackColumns(b) != three {
			t.Fatalf("BackColumns of %v: %v, and Columns, three times: %v", b, aes.BackColumns(b), three)
		}
	}
}

func TestColumnsKeepsSums(t *testing.T) {
	blocks := someBlocks()
	for i, a := range blocks {
		b := blocks[(i*31+7)%len(blocks)]
		if aes.Columns(together(a, b)) != together(aes.Columns(a), aes.Columns(b)) {
			t.Fatalf("Columns of the sum of %v and %v is not the sum of both", a, b)
		}
		if aes.BackColumns(together(a, b)) != together(aes.BackColumns(a), aes.BackColumns(b)) {
			t.Fatalf("BackColumns of the sum of %v and %v is not the sum of both", a, b)
		}
	}
}

func TestColumnsKeepsTheSumOfAColumn(t *testing.T) {
	// 2, 3, 1 and 1 have the sum 1, so that a column's own bytes have one sum ahead and behind, too.
	for _, b := range someBlocks() {
		out := aes.Columns(b)
		for c := 0; c < 16; c += 4 {
			if b[c]^b[c+1]^b[c+2]^b[c+3] != out[c]^out[c+1]^out[c+2]^out[c+3] {
				t.Fatalf("Columns of %v: the bytes of column %d have another sum", b, c/4)
			}
		}
	}
}
