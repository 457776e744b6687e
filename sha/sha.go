// Package sha is layer 1, SHA-256: see shared/doc/01-sha.md.
package sha

import "math/bits"

const (
	blockSize = 64
	countSize = 8
)

// state is the eight numbers that are carried from block to block.
type state [8]uint32

// words are the numbers that a block is spread to, one for each round.
type words [64]uint32

// cubeRoots holds the first 32 bits behind the point of the cube roots of the first 64 primes.
var cubeRoots = words{
	0x428a2f98, 0x71374491, 0xb5c0fbcf, 0xe9b5dba5, 0x3956c25b, 0x59f111f1, 0x923f82a4, 0xab1c5ed5,
	0xd807aa98, 0x12835b01, 0x243185be, 0x550c7dc3, 0x72be5d74, 0x80deb1fe, 0x9bdc06a7, 0xc19bf174,
	0xe49b69c1, 0xefbe4786, 0x0fc19dc6, 0x240ca1cc, 0x2de92c6f, 0x4a7484aa, 0x5cb0a9dc, 0x76f988da,
	0x983e5152, 0xa831c66d, 0xb00327c8, 0xbf597fc7, 0xc6e00bf3, 0xd5a79147, 0x06ca6351, 0x14292967,
	0x27b70a85, 0x2e1b2138, 0x4d2c6dfc, 0x53380d13, 0x650a7354, 0x766a0abb, 0x81c2c92e, 0x92722c85,
	0xa2bfe8a1, 0xa81a664b, 0xc24b8b70, 0xc76c51a3, 0xd192e819, 0xd6990624, 0xf40e3585, 0x106aa070,
	0x19a4c116, 0x1e376c08, 0x2748774c, 0x34b0bcb5, 0x391c0cb3, 0x4ed8aa4a, 0x5b9cca4f, 0x682e6ff3,
	0x748f82ee, 0x78a5636f, 0x84c87814, 0x8cc70208, 0x90befffa, 0xa4506ceb, 0xbef9a3f7, 0xc67178f2,
}

// Hash is a hash of bytes so far.
type Hash struct {
	state state
	// Only the first length%blockSize bytes of block count: those behind the last whole block.
	block  [blockSize]byte
	length uint64
}

// Sum is the sum of parts, one behind the other.
func Sum(parts ...[]byte) []byte {
	h := New()
	for _, part := range parts {
		h.Write(part)
	}
	return h.Sum()
}

// New is a hash of no bytes.
func New() *Hash {
	// The first 32 bits behind the point of the square roots of the first eight primes.
	return &Hash{state: state{
		0x6a09e667, 0xbb67ae85, 0x3c6ef372, 0xa54ff53a, 0x510e527f, 0x9b05688c, 0x1f83d9ab, 0x5be0cd19,
	}}
}

// Write goes on with bytes.
func (h *Hash) Write(b []byte) {
	for len(b) > 0 {
		n := copy(h.block[h.length%blockSize:], b)
		h.length += uint64(n)
		b = b[n:]
		if h.length%blockSize == 0 {
			h.state = mix(h.state, spread(h.block))
		}
	}
}

// Sum is the sum so far.
func (h *Hash) Sum() []byte {
	// What ends the message goes into a copy, so that h itself can go on.
	end := *h
	end.Write(ending(h.length))
	return sumBytes(end.state)
}

// ending is what stands behind a message of so many bytes.
func ending(length uint64) []byte {
	marked := blockSize - (length+countSize)%blockSize
	b := make([]byte, marked, marked+countSize)
	b[0] = 0x80
	count := length * 8
	for shift := 56; shift >= 0; shift -= 8 {
		b = append(b, byte(count>>shift))
	}
	return b
}

// sumBytes writes a state, each number's highest byte first.
func sumBytes(s state) []byte {
	b := make([]byte, 0, 4*len(s))
	for _, x := range s {
		b = append(b, byte(x>>24), byte(x>>16), byte(x>>8), byte(x))
	}
	return b
}

// spread makes a block's sixteen numbers, and from them those of the later rounds.
func spread(block [blockSize]byte) words {
	var w words
	for t := range 16 {
		b := 4 * t
		w[t] = uint32(block[b])<<24 | uint32(block[b+1])<<16 | uint32(block[b+2])<<8 | uint32(block[b+3])
	}
	for t := 16; t < len(w); t++ {
		w[t] = shifted(w[t-2], 17, 19, 10) + w[t-7] + shifted(w[t-15], 7, 18, 3) + w[t-16]
	}
	return w
}

// mix is the state behind a block of which the numbers are w.
func mix(s state, w words) state {
	a, b, c, d, e, f, g, h := s[0], s[1], s[2], s[3], s[4], s[5], s[6], s[7]
	t := 0
round:
	t1 := h + turned(e, 6, 11, 25) + (e&f ^ ^e&g) + cubeRoots[t] + w[t]
	t2 := turned(a, 2, 13, 22) + (a&b ^ a&c ^ b&c)
	h, g, f, e, d, c, b, a = g, f, e, d+t1, c, b, a, t1+t2
	t++
	if t < len(w) {
		goto round
	}
	return state{s[0] + a, s[1] + b, s[2] + c, s[3] + d, s[4] + e, s[5] + f, s[6] + g, s[7] + h}
}

// turned is x turned right by i, by j and by k, xored.
func turned(x uint32, i, j, k int) uint32 {
	return right(x, i) ^ right(x, j) ^ right(x, k)
}

// shifted is as turned, but for the last, by which x is moved, so that its lowest bits are lost.
func shifted(x uint32, i, j, k int) uint32 {
	return right(x, i) ^ right(x, j) ^ x>>k
}

// right exists because the library turns to the left, and the document to the right.
func right(x uint32, n int) uint32 {
	return bits.RotateLeft32(x, -n)
}
