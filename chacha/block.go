package chacha

import "strongbox/api"

// countAt is the place of the block's number among the sixteen words.
const countAt = 12

// firstWords gives the words that are written down for key and nonce, with 0 for the block's number (P5).
func firstWords(key string, nonce string) [16]uint32 {
	bytes := "expand 32-byte k" + key + "\x00\x00\x00\x00" + nonce
	var words [16]uint32
	for i := 0; i < len(bytes) && i < api.BlockLen; i++ {
		words[i/4] |= uint32(bytes[i]) << (8 * uint32(i%4))
	}
	return words
}

// makeBlock makes block n of the words that are written down (P5).
func makeBlock(words [16]uint32, n uint32) [api.BlockLen]byte {
	words[countAt] = n
	mixed := words
	for i := 0; i < 10; i++ {
		mixed = twoRounds(mixed)
	}
	var block [api.BlockLen]byte
	for i := 0; i < len(words); i++ {
		v := mixed[i] + words[i]
		block[4*i] = byte(v)
		block[4*i+1] = byte(v >> 8)
		block[4*i+2] = byte(v >> 16)
		block[4*i+3] = byte(v >> 24)
	}
	return block
}

func twoRounds(w [16]uint32) [16]uint32 {
	w = quarter(w, 0, 4, 8, 12)
	w = quarter(w, 1, 5, 9, 13)
	w = quarter(w, 2, 6, 10, 14)
	w = quarter(w, 3, 7, 11, 15)
	w = quarter(w, 0, 5, 10, 15)
	w = quarter(w, 1, 6, 11, 12)
	w = quarter(w, 2, 7, 8, 13)
	w = quarter(w, 3, 4, 9, 14)
	return w
}

// quarter does a quarter round on the words at four places, each below 16 (P5).
func quarter(w [16]uint32, i int, j int, k int, l int) [16]uint32 {
	a := w[i]
	b := w[j]
	c := w[k]
	d := w[l]
	a = a + b
	d = turnLeft(d^a, 16)
	c = c + d
	b = turnLeft(b^c, 12)
	a = a + b
	d = turnLeft(d^a, 8)
	c = c + d
	b = turnLeft(b^c, 7)
	w[i] = a
	w[j] = b
	w[k] = c
	w[l] = d
	return w
}

func turnLeft(v uint32, n uint32) uint32 {
	return v<<n | v>>(32-n)
}
