// Package octet is layer 1: see shared/doc/01-octet.md.
package octet

import "math/bits"

// blockSize is the only length that Double takes.
const blockSize = 16

// carryMark is what stands for the bit that Double moves out of a block.
const carryMark = 135

// Load is the word that stands somewhere.
func Load(b []byte, at int) uint64 {
	var x uint64
	for i := range 8 {
		// A sum behind the greatest int wraps round to below 0, where no byte is either.
		if place := at + i; place >= 0 && place < len(b) {
			x |= uint64(b[place]) << (8 * i)
		}
	}
	return x
}

// Store is a word's lowest bytes.
func Store(x uint64, n int) []byte {
	out := make([]byte, clamp(n, 8))
	for i := range out {
		out[i] = byte(x >> (8 * i))
	}
	return out
}

// Rot is a word, rotated to the left.
func Rot(x uint64, k int) uint64 { return bits.RotateLeft64(x, k) }

// Low is a word of lowest bits.
func Low(n int) uint64 {
	// Moved by 64, the 1 is gone, and 1 less than nothing is all bits.
	return uint64(1)<<clamp(n, 64) - 1
}

// Xor is bytes, put together bit by bit.
func Xor(a, b []byte) []byte {
	out := make([]byte, min(len(a), len(b)))
	for i := range out {
		out[i] = a[i] ^ b[i]
	}
	return out
}

// Inc is bytes and 1.
func Inc(b []byte) []byte {
	out := copied(b)
	for i := len(out) - 1; i >= 0; i-- {
		out[i]++
		// Only a byte that came round to 0 carries on to the one ahead.
		if out[i] != 0 {
			break
		}
	}
	return out
}

// Double is bytes, doubled.
func Double(b []byte) []byte {
	if len(b) != blockSize {
		return nil
	}
	out := copied(b)
	for i := range out[1:] {
		out[i] = out[i]<<1 | out[i+1]>>7
	}
	out[blockSize-1] <<= 1
	if b[0]>>7 == 1 {
		out[blockSize-1] ^= carryMark
	}
	return out
}

// Same tells whether bytes are alike.
func Same(a, b []byte) bool {
	if len(a) != len(b) {
		return false
	}
	// All bytes are gone through, so that how long it takes does not tell where tags part.
	var diff byte
	for i := range a {
		diff |= a[i] ^ b[i]
	}
	return diff == 0
}

// copied keeps what the caller holds from being changed, or shared.
func copied(b []byte) []byte {
	out := make([]byte, len(b))
	copy(out, b)
	return out
}

// clamp is n, held from 0 to top.
func clamp(n, top int) int { return min(max(n, 0), top) }
