package digest

import "math/bits"

const (
	blockSize  = 64 // bytes of a block of SHA-256
	lengthSize = 8  // bytes of the message's length at the end of the last block
)

// The round constants k(0) to k(63) of SHA-256.
var rounds = [64]uint32{
	0x428a2f98, 0x71374491, 0xb5c0fbcf, 0xe9b5dba5, 0x3956c25b, 0x59f111f1, 0x923f82a4, 0xab1c5ed5,
	0xd807aa98, 0x12835b01, 0x243185be, 0x550c7dc3, 0x72be5d74, 0x80deb1fe, 0x9bdc06a7, 0xc19bf174,
	0xe49b69c1, 0xefbe4786, 0x0fc19dc6, 0x240ca1cc, 0x2de92c6f, 0x4a7484aa, 0x5cb0a9dc, 0x76f988da,
	0x983e5152, 0xa831c66d, 0xb00327c8, 0xbf597fc7, 0xc6e00bf3, 0xd5a79147, 0x06ca6351, 0x14292967,
	0x27b70a85, 0x2e1b2138, 0x4d2c6dfc, 0x53380d13, 0x650a7354, 0x766a0abb, 0x81c2c92e, 0x92722c85,
	0xa2bfe8a1, 0xa81a664b, 0xc24b8b70, 0xc76c51a3, 0xd192e819, 0xd6990624, 0xf40e3585, 0x106aa070,
	0x19a4c116, 0x1e376c08, 0x2748774c, 0x34b0bcb5, 0x391c0cb3, 0x4ed8aa4a, 0x5b9cca4f, 0x682e6ff3,
	0x748f82ee, 0x78a5636f, 0x84c87814, 0x8cc70208, 0x90befffa, 0xa4506ceb, 0xbef9a3f7, 0xc67178f2,
}

// Sum returns the SHA-256 hash of b.
func Sum(b []byte) [32]byte {
	v := [8]uint32{0x6a09e667, 0xbb67ae85, 0x3c6ef372, 0xa54ff53a, 0x510e527f, 0x9b05688c, 0x1f83d9ab, 0x5be0cd19}
	rest := b
	for len(rest) >= blockSize {
		v = compress(v, rest[:blockSize])
		rest = rest[blockSize:]
	}
	end := ending(rest, len(b))
	for len(end) > 0 {
		v = compress(v, end[:blockSize])
		end = end[blockSize:]
	}
	var sum [32]byte
	for i, w := range v {
		sum[4*i], sum[4*i+1], sum[4*i+2], sum[4*i+3] = byte(w>>24), byte(w>>16), byte(w>>8), byte(w)
	}
	return sum
}

// ending returns the last one or two blocks of a message of size bytes: what remains of it after its whole blocks,
// the byte 128, zero bytes, and its length in bits.
func ending(rest []byte, size int) []byte {
	n := blockSize
	if len(rest) >= blockSize-lengthSize { // the byte 128 and the length do not fit any more
		n = 2 * blockSize
	}
	end := make([]byte, n)
	copy(end, rest)
	end[len(rest)] = 128
	length := uint64(size) * 8
	for i := range lengthSize {
		end[n-1-i] = byte(length >> (8 * i))
	}
	return end
}

// compress returns the hash value that a block changes v into.
func compress(v [8]uint32, block []byte) [8]uint32 {
	w := schedule(block)
	a, b, c, d, e, f, g, h := v[0], v[1], v[2], v[3], v[4], v[5], v[6], v[7]
	for t := range 64 {
		x := h + (rotr(e, 6) ^ rotr(e, 11) ^ rotr(e, 25)) + ((e & f) ^ (^e & g)) + rounds[t] + w[t]
		y := (rotr(a, 2) ^ rotr(a, 13) ^ rotr(a, 22)) + ((a & b) ^ (a & c) ^ (b & c))
		a, b, c, d, e, f, g, h = x+y, a, b, c, d+x, e, f, g
	}
	return [8]uint32{v[0] + a, v[1] + b, v[2] + c, v[3] + d, v[4] + e, v[5] + f, v[6] + g, v[7] + h}
}

// schedule returns the words w(0) to w(63) of a block.
func schedule(block []byte) [64]uint32 {
	var w [64]uint32
	for t := range 16 {
		b := block[4*t : 4*t+4]
		w[t] = uint32(b[0])<<24 | uint32(b[1])<<16 | uint32(b[2])<<8 | uint32(b[3])
	}
	for t := 16; t < 64; t++ {
		s0 := rotr(w[t-15], 7) ^ rotr(w[t-15], 18) ^ (w[t-15] >> 3)
		s1 := rotr(w[t-2], 17) ^ rotr(w[t-2], 19) ^ (w[t-2] >> 10)
		w[t] = w[t-16] + s0 + w[t-7] + s1
	}
	return w
}

// rotr returns x rotated right by n bits.
func rotr(x uint32, n int) uint32 { return bits.RotateLeft32(x, -n) }
