package sha2

import "strongbox/api"

// The eight words that stand at the beginning (P3).
var firstWords = [8]uint32{
	0x6a09e667, 0xbb67ae85, 0x3c6ef372, 0xa54ff53a, 0x510e527f, 0x9b05688c, 0x1f83d9ab, 0x5be0cd19,
}

// k(0) .. k(63) of P3.
var roundWords = [64]uint32{
	0x428a2f98, 0x71374491, 0xb5c0fbcf, 0xe9b5dba5, 0x3956c25b, 0x59f111f1, 0x923f82a4, 0xab1c5ed5,
	0xd807aa98, 0x12835b01, 0x243185be, 0x550c7dc3, 0x72be5d74, 0x80deb1fe, 0x9bdc06a7, 0xc19bf174,
	0xe49b69c1, 0xefbe4786, 0x0fc19dc6, 0x240ca1cc, 0x2de92c6f, 0x4a7484aa, 0x5cb0a9dc, 0x76f988da,
	0x983e5152, 0xa831c66d, 0xb00327c8, 0xbf597fc7, 0xc6e00bf3, 0xd5a79147, 0x06ca6351, 0x14292967,
	0x27b70a85, 0x2e1b2138, 0x4d2c6dfc, 0x53380d13, 0x650a7354, 0x766a0abb, 0x81c2c92e, 0x92722c85,
	0xa2bfe8a1, 0xa81a664b, 0xc24b8b70, 0xc76c51a3, 0xd192e819, 0xd6990624, 0xf40e3585, 0x106aa070,
	0x19a4c116, 0x1e376c08, 0x2748774c, 0x34b0bcb5, 0x391c0cb3, 0x4ed8aa4a, 0x5b9cca4f, 0x682e6ff3,
	0x748f82ee, 0x78a5636f, 0x84c87814, 0x8cc70208, 0x90befffa, 0xa4506ceb, 0xbef9a3f7, 0xc67178f2,
}

// spread makes of a block the 64 words w(t) of P3.
func spread(block [api.BlockLen]byte) [64]uint32 {
	var w [64]uint32
	for t := 0; t < 16; t++ {
		w[t] = uint32(block[4*t])<<24 | uint32(block[4*t+1])<<16 | uint32(block[4*t+2])<<8 | uint32(block[4*t+3])
	}
	for t := 16; t < 64; t++ {
		w[t] = w[t-16] + smallS(w[t-15]) + w[t-7] + smallZ(w[t-2])
	}
	return w
}

// mix takes a block, given as its 64 words, into the eight words (P3).
func mix(words [8]uint32, w [64]uint32) [8]uint32 {
	a := words[0]
	b := words[1]
	c := words[2]
	d := words[3]
	e := words[4]
	f := words[5]
	g := words[6]
	h := words[7]
	for t := 0; t < 64; t++ {
		first := h + bigS(e) + choice(e, f, g) + roundWords[t] + w[t]
		second := bigZ(a) + majority(a, b, c)
		h = g
		g = f
		f = e
		e = d + first
		d = c
		c = b
		b = a
		a = first + second
	}
	return [8]uint32{
		words[0] + a, words[1] + b, words[2] + c, words[3] + d,
		words[4] + e, words[5] + f, words[6] + g, words[7] + h,
	}
}

func smallS(v uint32) uint32 {
	return turnRight(v, 7) ^ turnRight(v, 18) ^ v>>3
}

func smallZ(v uint32) uint32 {
	return turnRight(v, 17) ^ turnRight(v, 19) ^ v>>10
}

func bigS(e uint32) uint32 {
	return turnRight(e, 6) ^ turnRight(e, 11) ^ turnRight(e, 25)
}

func bigZ(a uint32) uint32 {
	return turnRight(a, 2) ^ turnRight(a, 13) ^ turnRight(a, 22)
}

func choice(e uint32, f uint32, g uint32) uint32 {
	return e&f | ^e&g
}

func majority(a uint32, b uint32, c uint32) uint32 {
	return a&b | a&c | b&c
}

func turnRight(v uint32, n uint32) uint32 {
	return v>>n | v<<(32-n)
}
