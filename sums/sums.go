// Package sums works out SHA-256, as FIPS 180-4 tells it, and CRC-32.
package sums

import "math/bits"

const (
	rounds      = 64
	blockBytes  = 64
	lengthBytes = 8
	// endMark stands just behind the text, so that texts that differ in zeros at their end differ.
	endMark = 0x80
)

// roundWords: of the cube roots of the first 64 primes the first 32 bits behind the point.
var roundWords = [rounds]uint32{
	0x428a2f98, 0x71374491, 0xb5c0fbcf, 0xe9b5dba5, 0x3956c25b, 0x59f111f1, 0x923f82a4, 0xab1c5ed5,
	0xd807aa98, 0x12835b01, 0x243185be, 0x550c7dc3, 0x72be5d74, 0x80deb1fe, 0x9bdc06a7, 0xc19bf174,
	0xe49b69c1, 0xefbe4786, 0x0fc19dc6, 0x240ca1cc, 0x2de92c6f, 0x4a7484aa, 0x5cb0a9dc, 0x76f988da,
	0x983e5152, 0xa831c66d, 0xb00327c8, 0xbf597fc7, 0xc6e00bf3, 0xd5a79147, 0x06ca6351, 0x14292967,
	0x27b70a85, 0x2e1b2138, 0x4d2c6dfc, 0x53380d13, 0x650a7354, 0x766a0abb, 0x81c2c92e, 0x92722c85,
	0xa2bfe8a1, 0xa81a664b, 0xc24b8b70, 0xc76c51a3, 0xd192e819, 0xd6990624, 0xf40e3585, 0x106aa070,
	0x19a4c116, 0x1e376c08, 0x2748774c, 0x34b0bcb5, 0x391c0cb3, 0x4ed8aa4a, 0x5b9cca4f, 0x682e6ff3,
	0x748f82ee, 0x78a5636f, 0x84c87814, 0x8cc70208, 0x90befffa, 0xa4506ceb, 0xbef9a3f7, 0xc67178f2,
}

// Of tells the SHA-256 of a text.
func Of(text string) [32]byte {
	// Of the square roots of the first 8 primes the first 32 bits behind the point.
	state := [8]uint32{0x6a09e667, 0xbb67ae85, 0x3c6ef372, 0xa54ff53a, 0x510e527f, 0x9b05688c, 0x1f83d9ab, 0x5be0cd19}
	rest := text
	for len(rest) >= blockBytes {
		var block [blockBytes]byte
		copy(block[:], rest)
		state = mix(state, block)
		rest = rest[blockBytes:]
	}
	return stateBytes(mixEnd(state, rest, uint64(len(text))))
}

// mixEnd mixes in what is left of a text behind its whole blocks, and how long the text was.
func mixEnd(state [8]uint32, rest string, length uint64) [8]uint32 {
	var block [blockBytes]byte
	copy(block[:], rest)
	block[len(rest)] = endMark
	if len(rest)+1 > blockBytes-lengthBytes {
		state = mix(state, block)
		block = [blockBytes]byte{}
	}
	inBits := length * 8
	for i := range lengthBytes {
		block[blockBytes-1-i] = byte(inBits >> (8 * i))
	}
	return mix(state, block)
}

// mix mixes one block into a state.
func mix(state [8]uint32, block [blockBytes]byte) [8]uint32 {
	words := spread(block)
	a, b, c, d := state[0], state[1], state[2], state[3]
	e, f, g, h := state[4], state[5], state[6], state[7]
	for i, word := range words {
		turned := turn(e, 6) ^ turn(e, 11) ^ turn(e, 25)
		choice := e&f ^ ^e&g
		first := h + turned + choice + roundWords[i] + word
		turned = turn(a, 2) ^ turn(a, 13) ^ turn(a, 22)
		majority := a&b ^ a&c ^ b&c
		a, b, c, d, e, f, g, h = first+turned+majority, a, b, c, d+first, e, f, g
	}
	for i, word := range [8]uint32{a, b, c, d, e, f, g, h} {
		state[i] += word
	}
	return state
}

// spread makes of a block's 16 words one for each round.
func spread(block [blockBytes]byte) [rounds]uint32 {
	var words [rounds]uint32
	for i := range 16 {
		words[i] = uint32(block[4*i])<<24 | uint32(block[4*i+1])<<16 | uint32(block[4*i+2])<<8 | uint32(block[4*i+3])
	}
	for i := 16; i < len(words); i++ {
		far, near := words[i-15], words[i-2]
		far = turn(far, 7) ^ turn(far, 18) ^ far>>3
		near = turn(near, 17) ^ turn(near, 19) ^ near>>10
		words[i] = words[i-16] + far + words[i-7] + near
	}
	return words
}

// turn turns a word's bits to the right, round its end.
func turn(word uint32, by int) uint32 {
	return bits.RotateLeft32(word, -by)
}

// stateBytes tells a state's words, the high byte first.
func stateBytes(state [8]uint32) [32]byte {
	var out [32]byte
	for i, word := range state {
		out[4*i], out[4*i+1], out[4*i+2], out[4*i+3] = byte(word>>24), byte(word>>16), byte(word>>8), byte(word)
	}
	return out
}
