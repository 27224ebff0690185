package keys_test

import (
	"bytes"
	"crypto/aes"
	"encoding/hex"
	"math"
	"math/bits"
	"slices"
	"sync"
	"testing"

	"visor/api"
	"visor/gf"
	"visor/keys"
	"visor/sbox"
)

// sizes are those of keys, with how many rounds each has.
func sizes() map[int]int { return map[int]int{16: 10, 24: 12, 32: 14} }

// product is AES's field's, told by long multiplication and long division of polynomials.
func product(a, b byte) byte {
	wide := 0
	for i := range 8 {
		if b>>i&1 == 1 {
			wide ^= int(a) << i
		}
	}
	for i := 14; i >= 8; i-- {
		if wide>>i&1 == 1 {
			wide ^= 283 << (i - 8)
		}
	}
	return byte(wide)
}

// substitution is AES's table, filled by walking all powers of 3 and of its inverse side by side: another way than a box's.
func substitution() [256]byte {
	table := [256]byte{0: 99}
	p, q := byte(1), byte(1)
	for range 255 {
		p, q = product(p, 3), product(q, 246)
		table[p] = q ^ bits.RotateLeft8(q, 1) ^ bits.RotateLeft8(q, 2) ^ bits.RotateLeft8(q, 3) ^ bits.RotateLeft8(q, 4) ^ 99
	}
	return table
}

// expansion is a key's round keys, worked out on words of 32 bits, place by place, as the standard tells it.
func expansion(table [256]byte, key []byte) [][]byte {
	k := len(key) / 4
	var words []uint32
	for i := range k {
		words = append(words, uint32(key[4*i])<<24|uint32(key[4*i+1])<<16|uint32(key[4*i+2])<<8|uint32(key[4*i+3]))
	}
	each := func(w uint32) uint32 {
		return uint32(table[w>>24])<<24 | uint32(table[w>>16&255])<<16 | uint32(table[w>>8&255])<<8 | uint32(table[w&255])
	}
	mark := byte(1)
	for i := k; i < 4*(k+7); i++ {
		w := words[i-1]
		if i%k == 0 {
			w = each(bits.RotateLeft32(w, 8)) ^ uint32(mark)<<24
			mark = product(mark, 2)
		} else if k == 8 && i%8 == 4 {
			w = each(w)
		}
		words = append(words, words[i-k]^w)
	}
	var list [][]byte
	for r := range k + 7 {
		var roundKey []byte
		for _, w := range words[4*r : 4*r+4] {
			roundKey = append(roundKey, byte(w>>24), byte(w>>16), byte(w>>8), byte(w))
		}
		list = append(list, roundKey)
	}
	return list
}

// someKeys are keys of n bytes: all bytes alike, all bits 0 but one, counted ones, and such as a rule of numbers scatters.
func someKeys(n int) [][]byte {
	var list [][]byte
	for x := range 256 {
		list = append(list, bytes.Repeat([]byte{byte(x)}, n))
	}
	for i := range 8 * n {
		key := make([]byte, n)
		key[i/8] = 1 << (i % 8)
		list = append(list, key)
	}
	state := uint64(n)
	for first := range 200 {
		counted, scattered := make([]byte, n), make([]byte, n)
		for i := range n {
			state = state*6364136223846793005 + 1442695040888963407
			counted[i], scattered[i] = byte(first+i), byte(state>>56)
		}
		list = append(list, counted, scattered)
	}
	return list
}

// expand is a key's round keys, of a key that must have some.
func expand(t *testing.T, key []byte) [][]byte {
	t.Helper()
	list, e := keys.Expand(key)
	if e != api.OK || len(list) != sizes()[len(key)]+1 {
		t.Fatalf("Expand of %x: %d, and %d round keys", key, e, len(list))
	}
	return list
}

// equal is whether two lists of round keys are alike.
func equal(a, b [][]byte) bool { return slices.EqualFunc(a, b, bytes.Equal) }

// copied is a copy of a list of round keys.
func copied(list [][]byte) [][]byte {
	var out [][]byte
	for _, l := range list {
		out = append(out, bytes.Clone(l))
	}
	return out
}

// decoded is bytes that are written as hexadecimal digits.
func decoded(t *testing.T, text string) []byte {
	t.Helper()
	b, err := hex.DecodeString(text)
	if err != nil {
		t.Fatal(err)
	}
	return b
}

// --- P8.1 ---

func TestRounds(t *testing.T) {
	ns := []int{math.MinInt, math.MinInt + 16, -1 << 32, 1 << 32, 1<<32 + 16, 1<<32 + 24, 1<<32 + 32, 1<<8 + 16, 1<<16 + 24, math.MaxInt}
	for n := -300; n <= 300; n++ {
		ns = append(ns, n)
	}
	for _, n := range ns {
		if got, want := keys.Rounds(n), sizes()[n]; got != want {
			t.Errorf("Rounds of %d: %d, not %d", n, got, want)
		}
	}
}

func TestMark(t *testing.T) {
	for _, c := range []struct {
		i    int
		want byte
	}{
		{1, 1}, {2, 2}, {3, 4}, {4, 8}, {5, 16}, {6, 32}, {7, 64}, {8, 128}, {9, 27}, {10, 54}, {11, 108},
		{12, 216}, {13, 171}, {14, 77}, {15, 154}, {51, 141}, {52, 1}, {53, 2}, {256, 1}, {257, 2},
	} {
		if got := keys.Mark(c.i); got != c.want {
			t.Errorf("Mark of %d: %d, not %d", c.i, got, c.want)
		}
	}
}

func TestMarkIsTwiceTheOneAhead(t *testing.T) {
	for i := 1; i < 1000; i++ {
		if got, want := keys.Mark(i+1), product(keys.Mark(i), 2); got != want {
			t.Errorf("Mark of %d: %d, not %d", i+1, got, want)
		}
	}
	for i := 1; i < 1000; i++ {
		if got, want := keys.Mark(i), gf.Pow(2, i-1); got != want {
			t.Errorf("Mark of %d: %d, not %d", i, got, want)
		}
	}
}

func TestMarkOfOthers(t *testing.T) {
	// The least number, less 1, is the greatest one: it must not have a power.
	is := []int{math.MinInt, math.MinInt + 1, math.MinInt / 2, -1 << 32, -1<<32 + 1, -256, -255, -254}
	for i := -60; i <= 0; i++ {
		is = append(is, i)
	}
	for _, i := range is {
		if got := keys.Mark(i); got != 0 {
			t.Errorf("Mark of %d: %d, not 0", i, got)
		}
	}
}

func TestMarkOfTheGreatest(t *testing.T) {
	// 51 factors 2 come to 1.
	for _, i := range []int{1 << 32, 1<<32 + 1, math.MaxInt / 2, math.MaxInt - 1, math.MaxInt} {
		want := byte(1)
		for range (i - 1) % 51 {
			want = product(want, 2)
		}
		if got := keys.Mark(i); got != want {
			t.Errorf("Mark of %d: %d, not %d", i, got, want)
		}
	}
}

// --- P8.2 ---

func TestExpandOfNothing(t *testing.T) {
	list := expand(t, make([]byte, 16))
	if want := []byte{98, 99, 99, 99, 98, 99, 99, 99, 98, 99, 99, 99, 98, 99, 99, 99}; !bytes.Equal(list[1], want) {
		t.Errorf("round key 1 of 16 bytes 0: %v, not %v", list[1], want)
	}
}

// standards are the keys that the standard (FIPS 197, appendix A) expands, and one of counted bytes that it enciphers with, each with its round keys.
func standards() map[string][]string {
	return map[string][]string{
		"2b7e151628aed2a6abf7158809cf4f3c": {
			"2b7e151628aed2a6abf7158809cf4f3c",
			"a0fafe1788542cb123a339392a6c7605",
			"f2c295f27a96b9435935807a7359f67f",
			"3d80477d4716fe3e1e237e446d7a883b",
			"ef44a541a8525b7fb671253bdb0bad00",
			"d4d1c6f87c839d87caf2b8bc11f915bc",
			"6d88a37a110b3efddbf98641ca0093fd",
			"4e54f70e5f5fc9f384a64fb24ea6dc4f",
			"ead27321b58dbad2312bf5607f8d292f",
			"ac7766f319fadc2128d12941575c006e",
			"d014f9a8c9ee2589e13f0cc8b6630ca6",
		},
		"8e73b0f7da0e6452c810f32b809079e562f8ead2522c6b7b": {
			"8e73b0f7da0e6452c810f32b809079e5",
			"62f8ead2522c6b7bfe0c91f72402f5a5",
			"ec12068e6c827f6b0e7a95b95c56fec2",
			"4db7b4bd69b5411885a74796e92538fd",
			"e75fad44bb095386485af05721efb14f",
			"a448f6d94d6dce24aa326360113b30e6",
			"a25e7ed583b1cf9a27f939436a94f767",
			"c0a69407d19da4e1ec1786eb6fa64971",
			"485f703222cb8755e26d135233f0b7b3",
			"40beeb282f18a2596747d26b458c553e",
			"a7e1466c9411f1df821f750aad07d753",
			"ca4005388fcc5006282d166abc3ce7b5",
			"e98ba06f448c773c8ecc720401002202",
		},
		"603deb1015ca71be2b73aef0857d77811f352c073b6108d72d9810a30914dff4": {
			"603deb1015ca71be2b73aef0857d7781",
			"1f352c073b6108d72d9810a30914dff4",
			"9ba354118e6925afa51a8b5f2067fcde",
			"a8b09c1a93d194cdbe49846eb75d5b9a",
			"d59aecb85bf3c917fee94248de8ebe96",
			"b5a9328a2678a647983122292f6c79b3",
			"812c81addadf48ba24360af2fab8b464",
			"98c5bfc9bebd198e268c3ba709e04214",
			"68007bacb2df331696e939e46c518d80",
			"c814e20476a9fb8a5025c02d59c58239",
			"de1369676ccc5a71fa2563959674ee15",
			"5886ca5d2e2f31d77e0af1fa27cf73c3",
			"749c47ab18501ddae2757e4f7401905a",
			"cafaaae3e4d59b349adf6acebd10190d",
			"fe4890d1e6188d0b046df344706c631e",
		},
		"000102030405060708090a0b0c0d0e0f": {
			"000102030405060708090a0b0c0d0e0f",
			"d6aa74fdd2af72fadaa678f1d6ab76fe",
			"b692cf0b643dbdf1be9bc5006830b3fe",
			"b6ff744ed2c2c9bf6c590cbf0469bf41",
			"47f7f7bc95353e03f96c32bcfd058dfd",
			"3caaa3e8a99f9deb50f3af57adf622aa",
			"5e390f7df7a69296a7553dc10aa31f6b",
			"14f9701ae35fe28c440adf4d4ea9c026",
			"47438735a41c65b9e016baf4aebf7ad2",
			"549932d1f08557681093ed9cbe2c974e",
			"13111d7fe3944a17f307a78b4d2b30c5",
		},
	}
}

func TestExpandOfTheStandardsKeys(t *testing.T) {
	for key, texts := range standards() {
		list := expand(t, decoded(t, key))
		if len(list) != len(texts) {
			t.Fatalf("%s: %d round keys", key, len(list))
		}
		for r, text := range texts {
			if got := hex.EncodeToString(list[r]); got != text {
				t.Errorf("%s: round key %d: %s, not %s", key, r, got, text)
			}
		}
	}
}

func TestExpandOfManyKeys(t *testing.T) {
	table := substitution()
	for n, rounds := range sizes() {
		for _, key := range someKeys(n) {
			list := expand(t, key)
			if len(list) != rounds+1 || len(list) != keys.Rounds(n)+1 {
				t.Fatalf("%x: %d round keys", key, len(list))
			}
			for r, want := range expansion(table, key) {
				if !bytes.Equal(list[r], want) {
					t.Fatalf("%x: round key %d: %x, not %x", key, r, list[r], want)
				}
			}
		}
	}
}

func TestWordsAreMadeAsTold(t *testing.T) {
	box := sbox.New()
	for n := range sizes() {
		k := n / 4
		for _, key := range someKeys(n) {
			all := slices.Concat(expand(t, key)...)
			for i := k; i < len(all)/4; i++ {
				ahead := [4]byte(all[4*i-4 : 4*i])
				switch {
				case i%k == 0:
					ahead = [4]byte{box.Sub(ahead[1]) ^ keys.Mark(i/k), box.Sub(ahead[2]), box.Sub(ahead[3]), box.Sub(ahead[0])}
				case k == 8 && (i-4)%8 == 0:
					ahead = [4]byte{box.Sub(ahead[0]), box.Sub(ahead[1]), box.Sub(ahead[2]), box.Sub(ahead[3])}
				}
				for j := range 4 {
					if got, want := all[4*i+j], all[4*(i-k)+j]^ahead[j]; got != want {
						t.Fatalf("%x: word %d, byte %d: %d, not %d", key, i, j, got, want)
					}
				}
			}
		}
	}
}

// enciphered is a block that goes through the rounds that some round keys have, told byte by byte.
func enciphered(table [256]byte, list [][]byte, b [16]byte) [16]byte {
	for r, roundKey := range list {
		if r > 0 {
			var moved [16]byte
			for i := range moved {
				moved[i] = table[b[(i+i%4*4)%16]]
			}
			b = moved
		}
		if r > 0 && r < len(list)-1 {
			moved := b
			for i := range b {
				c := i / 4 * 4
				b[i] = product(moved[i], 2) ^ product(moved[c+(i+1)%4], 3) ^ moved[c+(i+2)%4] ^ moved[c+(i+3)%4]
			}
		}
		for i := range b {
			b[i] ^= roundKey[i]
		}
	}
	return b
}

func TestRoundKeysEncipherAsTheLibrarysDo(t *testing.T) {
	table := substitution()
	for n := range sizes() {
		for i, key := range someKeys(n) {
			if i%7 != 0 {
				continue
			}
			c, err := aes.NewCipher(key)
			if err != nil {
				t.Fatal(err)
			}
			var plain, want [16]byte
			for j := range plain {
				plain[j] = byte(i*31 + j*17)
			}
			c.Encrypt(want[:], plain[:])
			if got := enciphered(table, expand(t, key), plain); got != want {
				t.Fatalf("%x: a block is enciphered as %x, not as %x", key, got, want)
			}
		}
	}
}

func TestExpandOfNoKey(t *testing.T) {
	lengths := []int{255, 256, 272, 280, 288, 1 << 16, 1<<16 + 16, 1<<16 + 24, 1<<16 + 32}
	for n := range 200 {
		lengths = append(lengths, n)
	}
	for _, n := range lengths {
		if sizes()[n] != 0 {
			continue
		}
		if list, e := keys.Expand(make([]byte, n)); e != api.ErrLen || len(list) != 0 {
			t.Errorf("Expand of %d bytes: %d, and %d round keys", n, e, len(list))
		}
	}
	if list, e := keys.Expand(nil); e != api.ErrLen || len(list) != 0 {
		t.Errorf("Expand of no list: %d, and %d round keys", e, len(list))
	}
}

func TestLengthCountsAndNotWhatLiesBehind(t *testing.T) {
	long := make([]byte, 64)
	for i := range long {
		long[i] = byte(i*7 + 1)
	}
	kept := bytes.Clone(long)
	for n := range len(long) {
		list, e := keys.Expand(long[:n])
		alone, alike := keys.Expand(bytes.Clone(long[:n]))
		if e != alike || !equal(list, alone) {
			t.Errorf("%d bytes of a longer list: %d, and not the round keys of these alone", n, e)
		}
		if !bytes.Equal(long, kept) {
			t.Fatalf("%d bytes of a longer list: what was given is changed", n)
		}
	}
}

func TestAKeyThatIsChangedLaterChangesNothing(t *testing.T) {
	for n := range sizes() {
		for _, key := range someKeys(n)[200:300] {
			kept := bytes.Clone(key)
			list := expand(t, key)
			if !bytes.Equal(key, kept) {
				t.Fatalf("%x is changed", kept)
			}
			told := copied(list)
			for i := range key {
				key[i] ^= 255
			}
			if !equal(list, told) {
				t.Fatalf("the round keys of %x change with it", kept)
			}
		}
	}
}

func TestRoundKeysShareNothing(t *testing.T) {
	for n := range sizes() {
		key := someKeys(n)[300]
		kept := bytes.Clone(key)
		fresh := copied(expand(t, key))
		for r := range fresh {
			list := expand(t, key)
			for i := range list[r] {
				list[r][i] ^= 255
			}
			// What lies behind a list must not be another one's either.
			_ = append(list[r], 1, 2, 3, 4, 5, 6, 7, 8)
			for other := range list {
				if other != r && !bytes.Equal(list[other], fresh[other]) {
					t.Fatalf("%x: round key %d changes with round key %d", kept, other, r)
				}
			}
			if !bytes.Equal(key, kept) {
				t.Fatalf("%x changes with round key %d", kept, r)
			}
			if !equal(expand(t, key), fresh) {
				t.Fatalf("%x: round keys that were written to are told again", kept)
			}
		}
	}
}

func TestManyExpandAtOnce(t *testing.T) {
	table := substitution()
	var all sync.WaitGroup
	for n := range sizes() {
		key := someKeys(n)[301]
		want := expansion(table, key)
		for range 8 {
			all.Go(func() {
				if list, e := keys.Expand(key); e != api.OK || !equal(list, want) {
					t.Errorf("%x, with others at once: %d, %x", key, e, list)
				}
			})
		}
	}
	all.Wait()
}

// --- P8.3 ---

func TestFirstRoundKeysBeginAsTheKeyDoes(t *testing.T) {
	for n := range sizes() {
		for _, key := range someKeys(n) {
			if all := slices.Concat(expand(t, key)...); !bytes.Equal(all[:n], key) {
				t.Fatalf("the first round keys of %x are %x", key, all[:n])
			}
		}
	}
}

// told is the key of 16 bytes of which the word of place first, and the three behind it, are four.
func told(table [256]byte, four [4][4]byte, first int) []byte {
	for ; first > 0; first-- {
		// The last of the four, one place further on, is the one that the next one was made of.
		last, ahead := four[3], four[2]
		if (first+3)%4 == 0 {
			ahead = [4]byte{table[ahead[1]], table[ahead[2]], table[ahead[3]], table[ahead[0]]}
			mark := byte(1)
			for range (first+3)/4 - 1 {
				mark = product(mark, 2)
			}
			ahead[0] ^= mark
		}
		for j := range last {
			last[j] ^= ahead[j]
		}
		four = [4][4]byte{last, four[0], four[1], four[2]}
	}
	return slices.Concat(four[0][:], four[1][:], four[2][:], four[3][:])
}

func TestAnyFourWordsTellAKeyOfSixteenBytes(t *testing.T) {
	table := substitution()
	for _, key := range someKeys(16) {
		all := slices.Concat(expand(t, key)...)
		for first := 0; first+4 <= len(all)/4; first++ {
			var four [4][4]byte
			for i := range four {
				four[i] = [4]byte(all[4*(first+i) : 4*(first+i)+4])
			}
			if got := told(table, four, first); !bytes.Equal(got, key) {
				t.Fatalf("%x: the four words from %d on tell %x", key, first, got)
			}
		}
	}
}
