// Package digest: the hash of a text (SHA-256) and the mac of a text by a key (HMAC).
package digest

import "math/bits"

// Size is how many bytes a hash or a mac has.
const Size = 32

// blockSize is how many bytes the hash mixes in at a time.
const blockSize = 64

// roundWords are the first 32 bits behind the point of the cube roots of the primes 2 to 311.
var roundWords = [64]uint32{
	0x428a2f98, 0x71374491, 0xb5c0fbcf, 0xe9b5dba5, 0x3956c25b, 0x59f111f1, 0x923f82a4, 0xab1c5ed5,
	0xd807aa98, 0x12835b01, 0x243185be, 0x550c7dc3, 0x72be5d74, 0x80deb1fe, 0x9bdc06a7, 0xc19bf174,
	0xe49b69c1, 0xefbe4786, 0x0fc19dc6, 0x240ca1cc, 0x2de92c6f, 0x4a7484aa, 0x5cb0a9dc, 0x76f988da,
	0x983e5152, 0xa831c66d, 0xb00327c8, 0xbf597fc7, 0xc6e00bf3, 0xd5a79147, 0x06ca6351, 0x14292967,
	0x27b70a85, 0x2e1b2138, 0x4d2c6dfc, 0x53380d13, 0x650a7354, 0x766a0abb, 0x81c2c92e, 0x92722c85,
	0xa2bfe8a1, 0xa81a664b, 0xc24b8b70, 0xc76c51a3, 0xd192e819, 0xd6990624, 0xf40e3585, 0x106aa070,
	0x19a4c116, 0x1e376c08, 0x2748774c, 0x34b0bcb5, 0x391c0cb3, 0x4ed8aa4a, 0x5b9cca4f, 0x682e6ff3,
	0x748f82ee, 0x78a5636f, 0x84c87814, 0x8cc70208, 0x90befffa, 0xa4506ceb, 0xbef9a3f7, 0xc67178f2,
}

// startWords answers the first 32 bits behind the point of the square roots of the primes 2 to 19.
func startWords() [8]uint32 {
	return [8]uint32{
		0x6a09e667, 0xbb67ae85, 0x3c6ef372, 0xa54ff53a, 0x510e527f, 0x9b05688c, 0x1f83d9ab, 0x5be0cd19,
	}
}

// Hash answers the hash of a text.
func Hash(text string) [Size]byte {
	words := startWords()
	padded := pad(text)
	for at := 0; at < len(padded); at += blockSize {
		words = mix(words, padded[at:at+blockSize])
	}
	return wordBytes(words)
}

// pad answers the text with what makes it whole blocks.
func pad(text string) []byte {
	padded := make([]byte, 0, len(text)+2*blockSize)
	padded = append(padded, text...)
	padded = append(padded, 0x80)
	for len(padded)%blockSize != blockSize-8 {
		padded = append(padded, 0)
	}
	length := uint64(len(text)) * 8
	for shift := 56; shift >= 0; shift -= 8 {
		padded = append(padded, byte(length>>shift))
	}
	return padded
}

// mix answers the words after one more block.
func mix(words [8]uint32, block []byte) [8]uint32 {
	schedule := spread(block)
	a, b, c, d := words[0], words[1], words[2], words[3]
	e, f, g, h := words[4], words[5], words[6], words[7]
	for t := range 64 {
		first := h + turnThrice(e, 6, 11, 25) + (e&f ^ ^e&g) + roundWords[t] + schedule[t]
		second := turnThrice(a, 2, 13, 22) + (a&b ^ a&c ^ b&c)
		h, g, f, e = g, f, e, d+first
		d, c, b, a = c, b, a, first+second
	}
	return [8]uint32{
		words[0] + a, words[1] + b, words[2] + c, words[3] + d,
		words[4] + e, words[5] + f, words[6] + g, words[7] + h,
	}
}

// spread makes the 64 words of a block out of its 16.
func spread(block []byte) [64]uint32 {
	var w [64]uint32
	for t := range 16 {
		w[t] = uint32(block[4*t])<<24 | uint32(block[4*t+1])<<16 | uint32(block[4*t+2])<<8 | uint32(block[4*t+3])
	}
	for t := 16; t < 64; t++ {
		w[t] = w[t-16] + turnAndShift(w[t-15], 7, 18, 3) + w[t-7] + turnAndShift(w[t-2], 17, 19, 10)
	}
	return w
}

func turnRight(x uint32, by int) uint32 {
	return bits.RotateLeft32(x, -by)
}

func turnThrice(x uint32, a, b, c int) uint32 {
	return turnRight(x, a) ^ turnRight(x, b) ^ turnRight(x, c)
}

func turnAndShift(x uint32, a, b, c int) uint32 {
	return turnRight(x, a) ^ turnRight(x, b) ^ x>>c
}

// wordBytes lays the words out, each with its high byte first.
func wordBytes(words [8]uint32) [Size]byte {
	var out [Size]byte
	for i, word := range words {
		out[4*i] = byte(word >> 24)
		out[4*i+1] = byte(word >> 16)
		out[4*i+2] = byte(word >> 8)
		out[4*i+3] = byte(word)
	}
	return out
}
