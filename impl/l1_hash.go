// Package impl: journeys over flights that are kept in several places, each sold as a whole or not at all.
package impl

import "math/bits"

const (
	hashBlock   = 64
	hashFigures = "0123456789abcdef"
)

// hashRounds is the fractional parts of the cube roots of the first 64 primes, one for each round.
var hashRounds = [64]uint32{
	0x428a2f98, 0x71374491, 0xb5c0fbcf, 0xe9b5dba5, 0x3956c25b, 0x59f111f1, 0x923f82a4, 0xab1c5ed5,
	0xd807aa98, 0x12835b01, 0x243185be, 0x550c7dc3, 0x72be5d74, 0x80deb1fe, 0x9bdc06a7, 0xc19bf174,
	0xe49b69c1, 0xefbe4786, 0x0fc19dc6, 0x240ca1cc, 0x2de92c6f, 0x4a7484aa, 0x5cb0a9dc, 0x76f988da,
	0x983e5152, 0xa831c66d, 0xb00327c8, 0xbf597fc7, 0xc6e00bf3, 0xd5a79147, 0x06ca6351, 0x14292967,
	0x27b70a85, 0x2e1b2138, 0x4d2c6dfc, 0x53380d13, 0x650a7354, 0x766a0abb, 0x81c2c92e, 0x92722c85,
	0xa2bfe8a1, 0xa81a664b, 0xc24b8b70, 0xc76c51a3, 0xd192e819, 0xd6990624, 0xf40e3585, 0x106aa070,
	0x19a4c116, 0x1e376c08, 0x2748774c, 0x34b0bcb5, 0x391c0cb3, 0x4ed8aa4a, 0x5b9cca4f, 0x682e6ff3,
	0x748f82ee, 0x78a5636f, 0x84c87814, 0x8cc70208, 0x90befffa, 0xa4506ceb, 0xbef9a3f7, 0xc67178f2,
}

// hashState is the sum of the blocks so far.
type hashState struct {
	words [8]uint32
}

// HashSum is the SHA-256 of a text, in 64 figures.
func HashSum(text string) string {
	state := hashStart()
	whole := len(text) - len(text)%hashBlock
	state.addBlocks(text[:whole])
	state.addBlocks(hashTail(text[whole:], len(text)))
	return state.figures()
}

// hashStart is the fractional parts of the square roots of the first 8 primes.
func hashStart() hashState {
	return hashState{words: [8]uint32{
		0x6a09e667, 0xbb67ae85, 0x3c6ef372, 0xa54ff53a, 0x510e527f, 0x9b05688c, 0x1f83d9ab, 0x5be0cd19,
	}}
}

// hashTail is the last blocks: the rest of a text of that size, and what comes behind it.
func hashTail(rest string, size int) string {
	tail := append([]byte(rest), 128)
	for len(tail)%hashBlock != hashBlock-8 {
		tail = append(tail, 0)
	}
	count := uint64(size) * 8
	for shift := 56; shift >= 0; shift -= 8 {
		tail = append(tail, byte(count>>shift))
	}
	return string(tail)
}

func (h *hashState) addBlocks(text string) {
	for at := 0; at < len(text); at += hashBlock {
		h.addBlock(text[at : at+hashBlock])
	}
}

func (h *hashState) addBlock(block string) {
	spread := hashSpread(block)
	now := h.words
	for i, k := range hashRounds {
		now = hashRound(now, k+spread[i])
	}
	for i, word := range now {
		h.words[i] += word
	}
}

// hashSpread is the 16 words of a block, and 48 more that are made of them.
func hashSpread(block string) [64]uint32 {
	var w [64]uint32
	for i := range 16 {
		at := 4 * i
		w[i] = uint32(block[at])<<24 | uint32(block[at+1])<<16 | uint32(block[at+2])<<8 | uint32(block[at+3])
	}
	for i := 16; i < len(w); i++ {
		far, near := w[i-15], w[i-2]
		mixFar := bits.RotateLeft32(far, -7) ^ bits.RotateLeft32(far, -18) ^ far>>3
		mixNear := bits.RotateLeft32(near, -17) ^ bits.RotateLeft32(near, -19) ^ near>>10
		w[i] = w[i-16] + mixFar + w[i-7] + mixNear
	}
	return w
}

func hashRound(s [8]uint32, extra uint32) [8]uint32 {
	a, e := s[0], s[4]
	mixA := bits.RotateLeft32(a, -2) ^ bits.RotateLeft32(a, -13) ^ bits.RotateLeft32(a, -22)
	mixE := bits.RotateLeft32(e, -6) ^ bits.RotateLeft32(e, -11) ^ bits.RotateLeft32(e, -25)
	most := a&s[1] ^ a&s[2] ^ s[1]&s[2]
	choice := e&s[5] ^ ^e&s[6]
	first := s[7] + mixE + choice + extra
	return [8]uint32{first + mixA + most, a, s[1], s[2], s[3] + first, e, s[5], s[6]}
}

func (h *hashState) figures() string {
	var text []byte
	for _, word := range h.words {
		for shift := 28; shift >= 0; shift -= 4 {
			text = append(text, hashFigures[word>>shift&15])
		}
	}
	return string(text)
}
