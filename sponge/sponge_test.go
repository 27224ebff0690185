package sponge_test

import (
	"bytes"
	"crypto/sha3"
	"encoding/binary"
	"encoding/hex"
	"math"
	"slices"
	"strings"
	"sync"
	"testing"

	"visor/api"
	"visor/code"
	"visor/keccak"
	"visor/sponge"
)

// most is how many bytes one call tells, at most.
const most = 65536

// scattered is n bytes, such as a rule of numbers scatters.
func scattered(n int, seed uint64) []byte {
	out := make([]byte, n)
	for i := range out {
		seed = seed*6364136223846793005 + 1442695040888963407
		out[i] = byte(seed >> 56)
	}
	return out
}

// decoded is bytes that are written as hexadecimal digits, with blanks.
func decoded(t *testing.T, text string) []byte {
	t.Helper()
	b, err := hex.DecodeString(strings.ReplaceAll(text, " ", ""))
	if err != nil {
		t.Fatal(err)
	}
	return b
}

// rates is all rates.
func rates() []int {
	var out []int
	for rate := 8; rate <= 192; rate += 8 {
		out = append(out, rate)
	}
	return out
}

// noRates is numbers that are no rate.
func noRates() []int {
	var out []int
	for n := -210; n <= 410; n++ {
		if n < 8 || n > 192 || n%8 != 0 {
			out = append(out, n)
		}
	}
	return append(out, 1088, 1344, 1<<16, 1<<32, 1<<32+8, math.MinInt32, math.MinInt, math.MinInt+8, math.MaxInt32, math.MaxInt-7, math.MaxInt)
}

// marks is marks of hashes, and others.
func marks() []byte { return []byte{0, 1, 4, 6, 7, 31, 127, 128, 129, 134, 255} }

// counts is how many bytes are not told in one call.
func counts() []int {
	return []int{-1, -2, -8, -most, most + 1, most + 2, 2 * most, math.MinInt32, math.MinInt, math.MaxInt32, math.MaxInt}
}

// sizes is some lengths about blocks' ends.
func sizes(rate int) []int {
	return []int{0, 1, 7, 8, 9, rate - 2, rate - 1, rate, rate + 1, rate + 8, 2*rate - 1, 2 * rate, 2*rate + 1, 5*rate - 1, 5 * rate, 5*rate + 3}
}

// filled is a message as it is filled in, byte by byte as the chapter says.
func filled(m []byte, rate int, mark byte) []byte {
	out := append(bytes.Clone(m), mark)
	for len(out)%rate != 0 {
		out = append(out, 0)
	}
	out[len(out)-1] ^= 128
	return out
}

// permuted is a state of bytes, permuted.
func permuted(state [200]byte) [200]byte {
	var a [25]uint64
	for i := range a {
		a[i] = binary.LittleEndian.Uint64(state[8*i:])
	}
	a = keccak.Permute(a)
	for i := range a {
		binary.LittleEndian.PutUint64(state[8*i:], a[i])
	}
	return state
}

// model is the first n bytes that are told of a message, on a state of bytes, byte by byte.
func model(m []byte, rate int, mark byte, n int) []byte {
	var state [200]byte
	for i, b := range filled(m, rate, mark) {
		state[i%rate] ^= b
		if i%rate == rate-1 {
			state = permuted(state)
		}
	}
	out := make([]byte, n)
	for i := range out {
		if i > 0 && i%rate == 0 {
			state = permuted(state)
		}
		out[i] = state[i%rate]
	}
	return out
}

// sum is what is told of a message, where nothing may be amiss.
func sum(t *testing.T, m []byte, rate int, mark byte, n int) []byte {
	t.Helper()
	out, e := sponge.Sum(m, rate, mark, n)
	if e != api.OK || len(out) != n {
		t.Fatalf("Sum of %d bytes, %d and %d, in %d: %d bytes, %d", len(m), rate, mark, n, len(out), e)
	}
	return out
}

// sha is a hash of a length, of a number that must be one.
func sha(t *testing.T, bits int, m []byte) []byte {
	t.Helper()
	out, e := sponge.Sha3(bits, m)
	if e != api.OK || len(out) != bits/8 {
		t.Fatalf("Sha3 of %d and %d bytes: %d bytes, %d", bits, len(m), len(out), e)
	}
	return out
}

// shake is a hash of any length, of numbers that must be right.
func shake(t *testing.T, bits int, m []byte, n int) []byte {
	t.Helper()
	out, e := sponge.Shake(bits, m, n)
	if e != api.OK || len(out) != n {
		t.Fatalf("Shake of %d and %d bytes, in %d: %d bytes, %d", bits, len(m), n, len(out), e)
	}
	return out
}

// named is a hash with a name, of numbers that must be right.
func named(t *testing.T, bits int, name, custom, m []byte, n int) []byte {
	t.Helper()
	out, e := sponge.Named(bits, name, custom, m, n)
	if e != api.OK || len(out) != n {
		t.Fatalf("Named of %d, %d, %d and %d bytes, in %d: %d bytes, %d", bits, len(name), len(custom), len(m), n, len(out), e)
	}
	return out
}

// refused tells of an answer that should be ErrArg, and no bytes.
func refused(t *testing.T, b []byte, e api.Errno, what ...any) {
	t.Helper()
	if e != api.ErrArg || len(b) != 0 {
		t.Errorf("%v: %d bytes, %d", what, len(b), e)
	}
}

// opened is a hash at work of a rate that must be one.
func opened(t *testing.T, rate int, mark byte) *sponge.Work {
	t.Helper()
	w, e := sponge.New(rate, mark)
	if e != api.OK || w == nil {
		t.Fatalf("New of the rate %d: %d", rate, e)
	}
	return w
}

// written is a hash at work of pieces that were written, one behind the other.
func written(t *testing.T, rate int, mark byte, pieces ...[]byte) *sponge.Work {
	t.Helper()
	w := opened(t, rate, mark)
	for _, p := range pieces {
		if e := w.Write(p); e != api.OK {
			t.Fatalf("Write of %d bytes: %d", len(p), e)
		}
	}
	return w
}

// read is the next n bytes of a hash at work, which must tell them.
func read(t *testing.T, w *sponge.Work, n int) []byte {
	t.Helper()
	b, e := w.Read(n)
	if e != api.OK || len(b) != n {
		t.Fatalf("Read of %d: %d bytes, %d", n, len(b), e)
	}
	return b
}

// --- P15.1 ---

func TestRates(t *testing.T) {
	want := map[int]int{128: 168, 224: 144, 256: 136, 384: 104, 512: 72}
	numbers := []int{math.MinInt, math.MinInt + 256, math.MinInt32, math.MaxInt32, math.MaxInt - 255, math.MaxInt, 1<<32 + 256, 1<<16 + 128, 1<<40 + 512}
	for bits := -2000; bits <= 2000; bits++ {
		numbers = append(numbers, bits)
	}
	for _, bits := range numbers {
		if got := sponge.Rate(bits); got != want[bits] {
			t.Errorf("Rate(%d) = %d", bits, got)
		}
	}
}

func TestFillByHand(t *testing.T) {
	for _, row := range []struct {
		m    []byte
		rate int
		mark byte
		want []byte
	}{
		{nil, 8, 6, []byte{6, 0, 0, 0, 0, 0, 0, 128}},
		{nil, 16, 31, []byte{31, 0, 0, 0, 0, 0, 0, 0, 0, 0, 0, 0, 0, 0, 0, 128}},
		{[]byte{1, 2, 3}, 8, 4, []byte{1, 2, 3, 4, 0, 0, 0, 128}},
		{[]byte{1, 2, 3, 4, 5, 6}, 8, 6, []byte{1, 2, 3, 4, 5, 6, 6, 128}},
		{[]byte{1, 2, 3, 4, 5, 6, 7}, 8, 6, []byte{1, 2, 3, 4, 5, 6, 7, 134}},
		{[]byte{1, 2, 3, 4, 5, 6, 7}, 8, 31, []byte{1, 2, 3, 4, 5, 6, 7, 159}},
		{[]byte{1, 2, 3, 4, 5, 6, 7}, 8, 128, []byte{1, 2, 3, 4, 5, 6, 7, 0}},
		{[]byte{1, 2, 3, 4, 5, 6, 7}, 8, 255, []byte{1, 2, 3, 4, 5, 6, 7, 127}},
		{[]byte{1, 2, 3, 4, 5, 6, 7, 8}, 8, 6, []byte{1, 2, 3, 4, 5, 6, 7, 8, 6, 0, 0, 0, 0, 0, 0, 128}},
		{[]byte{1, 2, 3, 4, 5, 6, 7, 8, 9}, 8, 6, []byte{1, 2, 3, 4, 5, 6, 7, 8, 9, 6, 0, 0, 0, 0, 0, 128}},
	} {
		if got, e := sponge.Fill(row.m, row.rate, row.mark); e != api.OK || !bytes.Equal(got, row.want) {
			t.Errorf("Fill(%v, %d, %d) = %v, %d", row.m, row.rate, row.mark, got, e)
		}
	}
}

func TestFillOfAllRates(t *testing.T) {
	for _, rate := range rates() {
		for _, mark := range marks() {
			for n := range 3*rate + 2 {
				m := scattered(n, uint64(rate))
				if got, e := sponge.Fill(m, rate, mark); e != api.OK || !bytes.Equal(got, filled(m, rate, mark)) {
					t.Fatalf("Fill of %d bytes, %d and %d: %x, %d", n, rate, mark, got, e)
				}
			}
		}
	}
}

func TestSumOfAllRates(t *testing.T) {
	for _, rate := range rates() {
		for at, n := range sizes(rate) {
			m, mark := scattered(n, uint64(rate)), marks()[at%len(marks())]
			for _, told := range sizes(rate) {
				if got := sum(t, m, rate, mark, told); !bytes.Equal(got, model(m, rate, mark, told)) {
					t.Fatalf("Sum of %d bytes, %d and %d, in %d: %x", n, rate, mark, told, got)
				}
			}
		}
	}
}

func TestSumOfAllMarks(t *testing.T) {
	for mark := range 256 {
		for _, n := range []int{0, 70, 71, 72} {
			m := scattered(n, 5)
			if got := sum(t, m, 72, byte(mark), 80); !bytes.Equal(got, model(m, 72, byte(mark), 80)) {
				t.Fatalf("Sum of %d bytes and the mark %d: %x", n, mark, got)
			}
		}
	}
}

// TestSumOfPrintedHashes: Keccak as it was handed in ahead of the standard, whose mark is 1.
func TestSumOfPrintedHashes(t *testing.T) {
	for _, row := range []struct {
		m, want string
		rate    int
	}{
		{"", "c5d2460186f7233c927e7db2dcc703c0e500b653ca82273b7bfad8045d85a470", 136},
		{"abc", "4e03657aea45a94fc7d47ba826c8d667c0d1e6e33a64a036ec44f58fa12d6c45", 136},
		{"", "0eab42de4c3ceb9235fc91acffe746b29c29a8c366b7c60e4e67c466f36a4304c00fa9caf9d87976ba469bcbe06713b435f091ef2769fb160cdab33d3670680e", 72},
	} {
		want := decoded(t, row.want)
		if got := sum(t, []byte(row.m), row.rate, 1, len(want)); !bytes.Equal(got, want) {
			t.Errorf("Sum of %q and %d: %x", row.m, row.rate, got)
		}
	}
}

// TestTheFirstBlockThatIsTold: the state of nothing but what is filled in, permuted once, is told word by word, and no word behind the rate's.
func TestTheFirstBlockThatIsTold(t *testing.T) {
	for _, rate := range rates() {
		var a [25]uint64
		a[0] ^= 6
		a[rate/8-1] ^= 1 << 63
		a = keccak.Permute(a)
		b := keccak.Permute(a)
		var want []byte
		for _, word := range slices.Concat(a[:rate/8], b[:rate/8]) {
			want = binary.LittleEndian.AppendUint64(want, word)
		}
		if got := sum(t, nil, rate, 6, 2*rate); !bytes.Equal(got, want) {
			t.Errorf("Sum of nothing and %d: %x", rate, got)
		}
	}
}

func TestTheMostThatIsTold(t *testing.T) {
	m := scattered(500, 9)
	for _, rate := range []int{8, 136, 192} {
		want := model(m, rate, 31, most)
		for _, n := range []int{most - 1, most} {
			if got := sum(t, m, rate, 31, n); !bytes.Equal(got, want[:n]) {
				t.Errorf("Sum of the rate %d, in %d, is another one", rate, n)
			}
		}
	}
}

func TestFillAndSumOfNoRate(t *testing.T) {
	for _, rate := range noRates() {
		for _, m := range [][]byte{nil, {1, 2, 3}, scattered(400, 1)} {
			b, e := sponge.Fill(m, rate, 6)
			refused(t, b, e, "Fill", len(m), rate)
			for _, n := range []int{0, 1, 32, most, -1, most + 1} {
				b, e = sponge.Sum(m, rate, 6, n)
				refused(t, b, e, "Sum", len(m), rate, n)
			}
		}
	}
}

func TestSumOfOtherCounts(t *testing.T) {
	for _, n := range counts() {
		for _, rate := range []int{8, 72, 136, 192, 0, 7, 200} {
			b, e := sponge.Sum([]byte{1, 2}, rate, 6, n)
			refused(t, b, e, "Sum", rate, n)
		}
	}
}

// --- P15.2 ---

func TestSha3OfTheStandard(t *testing.T) {
	long := "abcdbcdecdefdefgefghfghighijhijkijkljklmklmnlmnomnopnopq"
	for _, row := range []struct {
		bits    int
		m, want string
	}{
		{224, "", "6b4e03423667dbb73b6e15454f0eb1abd4597f9a1b078e3f5b5a6bc7"},
		{256, "", "a7ffc6f8bf1ed76651c14756a061d662f580ff4de43b49fa82d80a4b80f8434a"},
		{384, "", "0c63a75b845e4f7d01107d852e4c2485c51a50aaaa94fc61995e71bbee983a2ac3713831264adb47fb6bd1e058d5f004"},
		{512, "", "a69f73cca23a9ac5c8b567dc185a756e97c982164fe25859e0d1dcc1475c80a615b2123af1f5f94c11e3e9402c3ac558f500199d95b6d3e301758586281dcd26"},
		{224, "abc", "e642824c3f8cf24ad09234ee7d3c766fc9a3a5168d0c94ad73b46fdf"},
		{256, "abc", "3a985da74fe225b2045c172d6bd390bd855f086e3e9d525b46bfe24511431532"},
		{384, "abc", "ec01498288516fc926459f58e2c6ad8df9b473cb0fc08c2596da7cf0e49be4b298d88cea927ac7f539f1edf228376d25"},
		{512, "abc", "b751850b1a57168a5693cd924b6b096e08f621827444f70d884f5d0240d2712e10e116e9192af3c91a7ec57647e3934057340b4cf408d5a56592f8274eec53f0"},
		{256, long, "41c0dba2a9d6240849100376a8235e2c82e1b9998a999e21db32dd97496d3376"},
	} {
		if got := sha(t, row.bits, []byte(row.m)); !bytes.Equal(got, decoded(t, row.want)) {
			t.Errorf("Sha3(%d, %q) = %x", row.bits, row.m, got)
		}
	}
}

// librarySha3 is the library's hash of a length.
func librarySha3(bits int, m []byte) []byte {
	switch bits {
	case 224:
		out := sha3.Sum224(m)
		return out[:]
	case 256:
		out := sha3.Sum256(m)
		return out[:]
	case 384:
		out := sha3.Sum384(m)
		return out[:]
	}
	out := sha3.Sum512(m)
	return out[:]
}

func TestSha3IsTheLibrarys(t *testing.T) {
	for _, bits := range []int{224, 256, 384, 512} {
		for n := range 450 {
			m := scattered(n, uint64(bits))
			if got := sha(t, bits, m); !bytes.Equal(got, librarySha3(bits, m)) {
				t.Fatalf("Sha3 of %d and %d bytes: %x", bits, n, got)
			}
		}
		m := scattered(1000003, uint64(bits))
		if got := sha(t, bits, m); !bytes.Equal(got, librarySha3(bits, m)) {
			t.Fatalf("Sha3 of %d and %d bytes: %x", bits, len(m), got)
		}
	}
}

// otherBits is numbers that stand for no hash, and those of one kind alone.
func otherBits(kind ...int) []int {
	out := []int{math.MinInt, math.MinInt32, math.MaxInt32, math.MaxInt, 1<<32 + 256, 1<<32 + 128, 1 << 40}
	for bits := -1100; bits <= 1100; bits++ {
		if !slices.Contains(kind, bits) {
			out = append(out, bits)
		}
	}
	return out
}

func TestSha3OfOtherNumbers(t *testing.T) {
	for _, bits := range otherBits(224, 256, 384, 512) {
		b, e := sponge.Sha3(bits, []byte("abc"))
		refused(t, b, e, "Sha3", bits)
	}
}

func TestShakeOfTheStandard(t *testing.T) {
	for _, row := range []struct {
		bits    int
		m, want string
	}{
		{128, "", "7f9c2ba4e88f827d616045507605853ed73b8093f6efbc88eb1a6eacfa66ef26"},
		{256, "", "46b9dd2b0ba88d13233b3feb743eeb243fcd52ea62b81b82b50c27646ed5762fd75dc4ddd8c0f200cb05019d67b592f6fc821c49479ab48640292eacb3b7c4be"},
		{128, "abc", "5881092dd818bf5cf8a3ddb793fbcba74097d5c526a6d35f97b83351940f2cc8"},
		{256, "abc", "483366601360a8771c6863080cc4114d8db44530f8f1e1ee4f94ea37e78b5739"},
	} {
		want := decoded(t, row.want)
		if got := shake(t, row.bits, []byte(row.m), len(want)); !bytes.Equal(got, want) {
			t.Errorf("Shake(%d, %q) = %x", row.bits, row.m, got)
		}
	}
}

// libraryShake is what the library tells of a message by a hash of any length.
func libraryShake(bits int, m []byte, n int) []byte {
	if bits == 128 {
		return sha3.SumSHAKE128(m, n)
	}
	return sha3.SumSHAKE256(m, n)
}

func TestShakeIsTheLibrarys(t *testing.T) {
	for _, bits := range []int{128, 256} {
		for n := range 400 {
			m := scattered(n, uint64(bits))
			for _, told := range []int{0, 1, n, 135, 136, 137, 167, 168, 169, 500} {
				if got := shake(t, bits, m, told); !bytes.Equal(got, libraryShake(bits, m, told)) {
					t.Fatalf("Shake of %d and %d bytes, in %d: %x", bits, n, told, got)
				}
			}
		}
		m := scattered(most+77, 3)
		if got := shake(t, bits, m, most); !bytes.Equal(got, libraryShake(bits, m, most)) {
			t.Errorf("Shake of %d, in %d, is another one", bits, most)
		}
	}
}

func TestShakeAndNamedOfOtherNumbers(t *testing.T) {
	for _, bits := range otherBits(128, 256) {
		for _, n := range []int{0, 32, -1, most + 1} {
			b, e := sponge.Shake(bits, []byte("abc"), n)
			refused(t, b, e, "Shake", bits, n)
			for _, name := range []string{"", "KMAC"} {
				for _, custom := range []string{"", "mine"} {
					b, e = sponge.Named(bits, []byte(name), []byte(custom), []byte("abc"), n)
					refused(t, b, e, "Named", bits, name, custom, n)
				}
			}
		}
	}
}

func TestShakeAndNamedOfOtherCounts(t *testing.T) {
	for _, bits := range []int{128, 256} {
		for _, n := range counts() {
			b, e := sponge.Shake(bits, []byte("abc"), n)
			refused(t, b, e, "Shake", bits, n)
			for _, name := range []string{"", "KMAC"} {
				for _, custom := range []string{"", "mine"} {
					b, e = sponge.Named(bits, []byte(name), []byte(custom), []byte("abc"), n)
					refused(t, b, e, "Named", bits, name, custom, n)
				}
			}
		}
	}
}

// counting is n bytes 0, 1, 2, and so on.
func counting(n int) []byte {
	out := make([]byte, n)
	for i := range out {
		out[i] = byte(i)
	}
	return out
}

// TestNamedOfTheStandard: the samples of cSHAKE.
func TestNamedOfTheStandard(t *testing.T) {
	for _, row := range []struct {
		bits int
		m    []byte
		want string
	}{
		{128, counting(4), "c1c36925b6409a04f1b504fcbca9d82b4017277cb5ed2b2065fc1d3814d5aaf5"},
		{128, counting(200), "c5221d50e4f822d96a2e8881a961420f294b7b24fe3d2094baed2c6524cc166b"},
		{256, counting(4), "d008828e2b80ac9d2218ffee1d070c48b8e4c87bff32c9699d5b6896eee0edd164020e2be0560858d9c00c037e34a96937c561a74c412bb4c746469527281c8c"},
		{256, counting(200), "07dc27b11e51fbac75bc7b3c1d983e8b4b85fb1defaf218912ac86430273091727f42b17ed1df63e8ec118f04b23633c1dfb1574c8fb55cb45da8e25afb092bb"},
	} {
		want := decoded(t, row.want)
		if got := named(t, row.bits, nil, []byte("Email Signature"), row.m, len(want)); !bytes.Equal(got, want) {
			t.Errorf("Named(%d, Email Signature) of %d bytes: %x", row.bits, len(row.m), got)
		}
	}
}

// TestTagsOfTheStandard: samples of KMAC, which are hashes with that name, of a key that is padded, the message, and the length.
func TestTagsOfTheStandard(t *testing.T) {
	key := counting(96)[64:]
	for _, row := range []struct {
		bits   int
		custom string
		m      []byte
		want   string
	}{
		{128, "", counting(4), "e5780b0d3ea6f7d3a429c5706aa43a00fadbd7d49628839e3187243f456ee14e"},
		{128, "My Tagged Application", counting(4), "3b1fba963cd8b0b59e8c1a6d71888b7143651af8ba0a7070c0979e2811324aa5"},
		{256, "My Tagged Application", counting(4), "20c570c31346f703c9ac36c61c03cb64c3970d0cfc787e9b79599d273a68d2f7f69d4cc3de9d104a351689f27cf6f5951f0103f33f4f24871024d9c27773a8dd"},
	} {
		want := decoded(t, row.want)
		head, _ := code.Pad(code.Str(key), sponge.Rate(row.bits))
		m := slices.Concat(head, row.m, code.Right(8*len(want)))
		if got := named(t, row.bits, []byte("KMAC"), []byte(row.custom), m, len(want)); !bytes.Equal(got, want) {
			t.Errorf("Named(%d, KMAC, %q): %x", row.bits, row.custom, got)
		}
	}
}

// libraryNamed is what the library tells of a message by a hash with a name.
func libraryNamed(bits int, name, custom, m []byte, n int) []byte {
	h := sha3.NewCSHAKE256(name, custom)
	if bits == 128 {
		h = sha3.NewCSHAKE128(name, custom)
	}
	h.Write(m)
	out := make([]byte, n)
	h.Read(out)
	return out
}

func TestNamedIsTheLibrarys(t *testing.T) {
	lengths := []int{0, 1, 4, 31, 32, 60, 130, 131, 132, 133, 162, 163, 164, 165, 300, 9000}
	for _, bits := range []int{128, 256} {
		for _, a := range lengths {
			for _, b := range lengths {
				name, custom := scattered(a, 1), scattered(b, 2)
				for _, c := range []int{0, 3, 135, 136, 167, 168, 400} {
					m := scattered(c, 3)
					if got := named(t, bits, name, custom, m, 180); !bytes.Equal(got, libraryNamed(bits, name, custom, m, 180)) {
						t.Fatalf("Named of %d, %d, %d and %d bytes: %x", bits, a, b, c, got)
					}
				}
			}
		}
		if got := named(t, bits, []byte("n"), nil, nil, most); !bytes.Equal(got, libraryNamed(bits, []byte("n"), nil, nil, most)) {
			t.Errorf("Named of %d, in %d, is another one", bits, most)
		}
	}
}

func TestNamedOfNoNameIsShake(t *testing.T) {
	for _, bits := range []int{128, 256} {
		for _, n := range []int{0, 1, 136, 168, 500} {
			m := scattered(n, 8)
			want := shake(t, bits, m, 300)
			if !bytes.Equal(named(t, bits, nil, nil, m, 300), want) || !bytes.Equal(named(t, bits, []byte{}, []byte{}, m, 300), want) {
				t.Errorf("Named of %d and no name is not Shake", bits)
			}
			for _, part := range [][2]string{{"a", ""}, {"", "a"}, {"\x00", ""}, {"", "\x00"}} {
				if bytes.Equal(named(t, bits, []byte(part[0]), []byte(part[1]), m, 300), want) {
					t.Errorf("Named of %d, %q and %q is Shake", bits, part[0], part[1])
				}
			}
		}
	}
}

// TestNamesPartHashes: what is cut off one of them and put to another makes another hash.
func TestNamesPartHashes(t *testing.T) {
	known := map[string]int{}
	for at, row := range [][3]string{
		{"", "", "abc"}, {"a", "", "bc"}, {"", "a", "bc"}, {"a", "b", "c"}, {"ab", "", "c"}, {"", "ab", "c"},
		{"ab", "c", ""}, {"a", "bc", ""}, {"abc", "", ""}, {"", "abc", ""}, {"b", "a", "c"}, {"a", "", "b"},
	} {
		for _, bits := range []int{128, 256} {
			out := string(named(t, bits, []byte(row[0]), []byte(row[1]), []byte(row[2]), 32))
			if before, ok := known[out]; ok {
				t.Errorf("the rows %d and %d are hashed alike", before, at)
			}
			known[out] = at
		}
	}
}

func TestNewOfAllRates(t *testing.T) {
	for _, rate := range rates() {
		for _, mark := range marks() {
			if got := read(t, opened(t, rate, mark), 2*rate+1); !bytes.Equal(got, model(nil, rate, mark, 2*rate+1)) {
				t.Errorf("a hash at work of nothing yet, %d and %d: %x", rate, mark, got)
			}
		}
	}
	for _, rate := range noRates() {
		if w, e := sponge.New(rate, 6); w != nil || e != api.ErrArg {
			t.Errorf("New(%d, 6): %v, %d", rate, w, e)
		}
	}
}

func TestWorkOfOnePieceIsSum(t *testing.T) {
	for _, rate := range rates() {
		for at, n := range sizes(rate) {
			m, mark := scattered(n, 4), marks()[at%len(marks())]
			for _, told := range sizes(rate) {
				if got := read(t, written(t, rate, mark, m), told); !bytes.Equal(got, model(m, rate, mark, told)) {
					t.Fatalf("%d bytes, written to a hash of %d and %d, and %d read: %x", n, rate, mark, told, got)
				}
			}
		}
	}
}

func TestWhatWasReadFromIsNotWritten(t *testing.T) {
	for _, first := range []int{0, 1, 71, 72, 73, 500} {
		m := scattered(100, 5)
		w := written(t, 72, 6, m)
		want := model(m, 72, 6, first+200)
		got := read(t, w, first)
		for _, b := range [][]byte{nil, {}, {0}, scattered(300, 6)} {
			if e := w.Write(b); e != api.ErrArg {
				t.Errorf("Write of %d bytes, when %d were read: %d", len(b), first, e)
			}
		}
		if got = append(got, read(t, w, 200)...); !bytes.Equal(got, want) {
			t.Errorf("behind a Write that was refused, other bytes are told: %x", got)
		}
	}
}

func TestReadOfOtherCounts(t *testing.T) {
	for _, begin := range []int{-1, 0, 5, 72, 100} {
		m := scattered(90, 7)
		w := written(t, 72, 31, m)
		var got []byte
		if begin >= 0 {
			got = read(t, w, begin)
		}
		for _, n := range counts() {
			b, e := w.Read(n)
			refused(t, b, e, "Read", n)
		}
		more := scattered(33, 8)
		if begin < 0 {
			// A Read that told an error has read nothing, so that more may be written.
			if e := w.Write(more); e != api.OK {
				t.Errorf("Write behind a Read that was refused: %d", e)
			}
			m = append(m, more...)
		} else if e := w.Write(more); e != api.ErrArg {
			t.Errorf("Write when %d were read: %d", begin, e)
		}
		if got = append(got, read(t, w, 150)...); !bytes.Equal(got, model(m, 72, 31, len(got))) {
			t.Errorf("behind a Read that was refused, when %d were read: %x", begin, got)
		}
	}
}

func TestReadOfTheMost(t *testing.T) {
	m := scattered(10, 1)
	w := written(t, 168, 31, m)
	var got []byte
	for _, n := range []int{most, most - 1, 0, 1, most} {
		got = append(got, read(t, w, n)...)
	}
	if !bytes.Equal(got, libraryShake(128, m, 3*most)) {
		t.Error("what is read behind one call's most is another one")
	}
}

func TestNobodysWork(t *testing.T) {
	for _, w := range []*sponge.Work{nil, new(sponge.Work)} {
		for _, b := range [][]byte{nil, {}, {1, 2, 3}, scattered(500, 1)} {
			if e := w.Write(b); e != api.ErrArg {
				t.Errorf("Write of %d bytes to nobody's: %d", len(b), e)
			}
		}
		for _, n := range append(counts(), 0, 1, 200, most) {
			b, e := w.Read(n)
			refused(t, b, e, "Read of nobody's", n)
		}
	}
}

// TestWorkIsAsAModelHasIt: whatever is asked, one after the other.
func TestWorkIsAsAModelHasIt(t *testing.T) {
	for seed := range uint64(300) {
		choices := scattered(60, seed)
		rate, mark := rates()[int(seed)%24], choices[0]
		w := opened(t, rate, mark)
		var m, told []byte
		wasRead := false
		for i, c := range choices[1:] {
			size := int(c) >> 1
			switch {
			case c%2 == 0 && i < 40 || i%7 == 0:
				b := scattered(size, uint64(i))
				want := api.OK
				if wasRead {
					want = api.ErrArg
				} else {
					m = append(m, b...)
				}
				if e := w.Write(b); e != want {
					t.Fatalf("Write of %d bytes: %d, not %d", size, e, want)
				}
			case c%16 == 1:
				b, e := w.Read(most + size + 1)
				refused(t, b, e, "Read", most+size+1)
			case c%16 == 3:
				b, e := w.Read(-1 - size)
				refused(t, b, e, "Read", -1-size)
			case i > 15:
				wasRead = true
				told = append(told, read(t, w, size)...)
			}
		}
		if !bytes.Equal(told, model(m, rate, mark, len(told))) {
			t.Fatalf("of %d bytes %d were told, others than the model's", len(m), len(told))
		}
	}
}

func TestTwoAtWorkAreApart(t *testing.T) {
	a, b := opened(t, 136, 6), opened(t, 136, 6)
	m := scattered(700, 2)
	for i := range 7 {
		for _, e := range []api.Errno{a.Write(m[100*i:][:100]), b.Write(m[50*i:][:50])} {
			if e != api.OK {
				t.Fatalf("Write: %d", e)
			}
		}
	}
	first, second := read(t, a, 10), read(t, b, 20)
	first = append(first, read(t, a, 300)...)
	second = append(second, read(t, b, 300)...)
	if !bytes.Equal(first, model(m, 136, 6, 310)) || !bytes.Equal(second, model(m[:350], 136, 6, 320)) {
		t.Error("of two hashes at work, one tells what was written to the other")
	}
}

// --- P15.3 ---

func TestMoreBytesBeginAsFewerDo(t *testing.T) {
	m := scattered(200, 3)
	for _, rate := range rates() {
		long := sum(t, m, rate, 31, 3*rate+9)
		for n := range long {
			if !bytes.Equal(sum(t, m, rate, 31, n), long[:n]) {
				t.Fatalf("%d bytes of the rate %d are not as more begin", n, rate)
			}
		}
	}
	for _, bits := range []int{128, 256} {
		longest, called := shake(t, bits, m, most), named(t, bits, m, m, m, most)
		for n := 0; n < most; n += 7001 {
			if !bytes.Equal(shake(t, bits, m, n), longest[:n]) || !bytes.Equal(named(t, bits, m, m, m, n), called[:n]) {
				t.Fatalf("%d bytes of the number %d are not as more begin", n, bits)
			}
		}
	}
}

// emptied is the message that was filled in, of a mark that is not 0.
func emptied(b []byte) []byte {
	b = bytes.Clone(b)
	b[len(b)-1] ^= 128
	b = bytes.TrimRight(b, "\x00")
	return b[:len(b)-1]
}

func TestFromWhatIsFilledInTheMessageIsTold(t *testing.T) {
	for _, rate := range rates() {
		for _, mark := range marks()[1:] {
			for n := range 2*rate + 2 {
				// Messages that end as what is filled in does must be told, too.
				for _, m := range [][]byte{scattered(n, 4), make([]byte, n), bytes.Repeat([]byte{mark}, n), bytes.Repeat([]byte{128}, n), bytes.Repeat([]byte{mark ^ 128}, n)} {
					b, e := sponge.Fill(m, rate, mark)
					if e != api.OK || len(b)%rate != 0 || len(b) <= n || len(b) > n+rate || !bytes.Equal(emptied(b), m) {
						t.Fatalf("%d bytes, filled in with %d to %d: %x, %d", n, mark, rate, b, e)
					}
				}
			}
		}
	}
}

func TestHoweverAMessageIsCutItIsOne(t *testing.T) {
	for _, rate := range []int{8, 16, 72, 136, 168, 192} {
		m := scattered(2*rate+5, 5)
		want := model(m, rate, 6, 64)
		for i := range len(m) + 1 {
			for _, j := range []int{i, i + 1, i + 8, i + rate - 1, i + rate, i + rate + 1, len(m)} {
				if j > len(m) {
					continue
				}
				if got := read(t, written(t, rate, 6, m[:i], m[i:j], m[j:]), 64); !bytes.Equal(got, want) {
					t.Fatalf("cut at %d and %d of %d, at the rate %d: %x", i, j, len(m), rate, got)
				}
			}
		}
	}
}

func TestWrittenInStepsItIsOne(t *testing.T) {
	for _, rate := range rates() {
		m := scattered(5*rate+3, 6)
		for _, size := range []int{len(m), 5 * rate, 5*rate - 1, 4 * rate} {
			want := model(m[:size], rate, 31, 40)
			for _, step := range []int{1, 2, 3, 7, 8, 9, rate - 1, rate, rate + 1, 2 * rate, 2*rate + 1} {
				pieces := [][]byte{nil}
				for piece := range slices.Chunk(m[:size], step) {
					pieces = append(pieces, piece, nil)
				}
				if got := read(t, written(t, rate, 31, pieces...), 40); !bytes.Equal(got, want) {
					t.Fatalf("%d bytes, written %d by %d at the rate %d: %x", size, step, step, rate, got)
				}
			}
		}
	}
}

func TestHoweverWhatIsToldIsCutItIsOne(t *testing.T) {
	for _, rate := range []int{8, 16, 72, 136, 168, 192} {
		m := scattered(33, 7)
		size := 2*rate + 5
		want := model(m, rate, 31, size)
		for i := range size + 1 {
			for _, j := range []int{i, i + 1, i + 8, i + rate - 1, i + rate, i + rate + 1, size} {
				if j > size {
					continue
				}
				w := written(t, rate, 31, m)
				if got := slices.Concat(read(t, w, i), read(t, w, j-i), read(t, w, size-j)); !bytes.Equal(got, want) {
					t.Fatalf("read up to %d, %d and %d, at the rate %d: %x", i, j, size, rate, got)
				}
			}
		}
	}
}

func TestReadInStepsItIsOne(t *testing.T) {
	for _, rate := range rates() {
		m := scattered(rate, 8)
		want := model(m, rate, 4, 6*rate)
		for _, step := range []int{1, 2, 3, 7, 8, 9, rate - 1, rate, rate + 1, 2 * rate} {
			w := written(t, rate, 4, m)
			var got []byte
			for len(got) < len(want) {
				got = append(got, read(t, w, min(step, len(want)-len(got)))...)
				got = append(got, read(t, w, 0)...)
			}
			if !bytes.Equal(got, want) {
				t.Fatalf("read %d by %d at the rate %d: %x", step, step, rate, got)
			}
		}
	}
}

// --- What holds everywhere ---

func TestWhatIsGivenIsNotChanged(t *testing.T) {
	for _, n := range []int{0, 1, 71, 72, 73, 136, 200, 500} {
		// What lies behind the length is looked at, too.
		whole := scattered(n+300, 9)
		before := bytes.Clone(whole)
		m := whole[:n]
		sponge.Fill(m, 72, 6)
		sponge.Sum(m, 72, 6, 500)
		sponge.Sha3(512, m)
		sponge.Shake(128, m, 500)
		sponge.Named(256, m, m, m, 500)
		w := opened(t, 72, 6)
		w.Write(m)
		w.Write(m)
		w.Read(500)
		w.Write(m)
		if !bytes.Equal(whole, before) {
			t.Errorf("%d bytes that were given, or what lies behind them, are changed", n)
		}
	}
}

func TestLengthsCountAndNotWhatLiesBehind(t *testing.T) {
	for _, n := range []int{0, 1, 71, 72, 73, 136, 200} {
		m := scattered(n+300, 10)[:n]
		alone := bytes.Clone(m)
		a, _ := sponge.Fill(m, 72, 6)
		b, _ := sponge.Fill(alone, 72, 6)
		same := bytes.Equal(a, b)
		same = same && bytes.Equal(sum(t, m, 72, 6, 90), sum(t, alone, 72, 6, 90))
		same = same && bytes.Equal(named(t, 128, m, m, m, 90), named(t, 128, alone, alone, alone, 90))
		same = same && bytes.Equal(read(t, written(t, 72, 6, m, m), 90), read(t, written(t, 72, 6, alone, alone), 90))
		if !same {
			t.Errorf("what lies behind %d bytes counts", n)
		}
	}
}

func TestWhatWasWrittenIsNotKeptWithItsOwner(t *testing.T) {
	for _, n := range []int{1, 8, 71, 72, 73, 200} {
		m := scattered(n, 11)
		want := model(slices.Concat(m, m), 72, 6, 100)
		w := opened(t, 72, 6)
		for range 2 {
			b := bytes.Clone(m)
			w.Write(b)
			clear(b)
		}
		first := read(t, w, 30)
		got := bytes.Clone(first)
		clear(first)
		if got = append(got, read(t, w, 70)...); !bytes.Equal(got, want) {
			t.Errorf("%d bytes that were written, and changed then, are told as changed", n)
		}
	}
}

// tellers is all calls that tell bytes.
func tellers(t *testing.T, m []byte) map[string]func() []byte {
	return map[string]func() []byte{
		"Fill": func() []byte {
			b, _ := sponge.Fill(m, 72, 6)
			return b
		},
		"Sum":   func() []byte { return sum(t, m, 72, 6, 100) },
		"Sha3":  func() []byte { return sha(t, 512, m) },
		"Shake": func() []byte { return shake(t, 256, m, 100) },
		"Named": func() []byte { return named(t, 256, m, m, m, 100) },
		"Read":  func() []byte { return read(t, written(t, 72, 6, m), 100) },
		"a second Read": func() []byte {
			w := written(t, 72, 6, m)
			read(t, w, 5)
			return read(t, w, 100)
		},
	}
}

func TestWhatIsToldIsNewMemory(t *testing.T) {
	for _, n := range []int{0, 5, 71, 72, 143, 144} {
		m := scattered(n, 12)
		before := bytes.Clone(m)
		for name, tell := range tellers(t, m) {
			first := tell()
			want := bytes.Clone(first)
			first = first[:cap(first)]
			for i := range first {
				if i >= len(want) && first[i] != 0 {
					t.Fatalf("%s of %d bytes hands out what lies behind", name, n)
				}
				first[i] ^= 255
			}
			if !bytes.Equal(m, before) {
				t.Fatalf("%s: what is told shares memory with what was given", name)
			}
			if !bytes.Equal(tell(), want) {
				t.Fatalf("%s: what is told shares memory with what is told later", name)
			}
		}
	}
}

func TestManyAskAtOnce(t *testing.T) {
	m := scattered(1000, 13)
	want, called := librarySha3(256, m), libraryNamed(128, m, nil, m, 300)
	var group sync.WaitGroup
	for i := range 16 {
		group.Go(func() {
			hash, d := sponge.Sha3(256, m)
			other, e := sponge.Named(128, m, nil, m, 300)
			if d != api.OK || e != api.OK || !bytes.Equal(hash, want) || !bytes.Equal(other, called) {
				t.Error("with others at once, a hash is another one")
			}
			w, f := sponge.New(136, 6)
			if f != api.OK || w.Write(m[:50*i]) != api.OK || w.Write(m[50*i:]) != api.OK {
				t.Error("with others at once, a message is not written")
			} else if hash, f = w.Read(32); f != api.OK || !bytes.Equal(hash, want) {
				t.Error("with others at once, a hash at work tells other bytes")
			}
		})
	}
	group.Wait()
}
