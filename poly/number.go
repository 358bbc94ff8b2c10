package poly

import "strongbox/api"

// number is the sum of its digits, the lowest first, times 1, 2^8, 2^16, .. 2^128. A digit may be above 255 until it is carried.
type number [17]uint32

// numberOf gives the number of at most 16 bytes, the lowest first.
func numberOf(bytes string) number {
	var n number
	for i := 0; i < len(bytes) && i < api.TagLen; i++ {
		n[i] = uint32(bytes[i])
	}
	return n
}

// lowBytes gives the lowest 16 bytes of a number that has been carried.
func lowBytes(n number) string {
	out := []byte{}
	for i := 0; i < api.TagLen; i++ {
		out = append(out, byte(n[i]))
	}
	return string(out)
}

// carry leaves each digit but the highest below 256.
func carry(n number) number {
	var over uint32
	for i := 0; i < len(n)-1; i++ {
		v := n[i] + over
		n[i] = v & 255
		over = v >> 8
	}
	n[len(n)-1] += over
	return n
}

func add(a number, b number) number {
	for i := 0; i < len(a); i++ {
		a[i] += b[i]
	}
	return carry(a)
}

// times gives the product modulo 2^130 - 5, though it may be above that by less than 2^32.
// With the digits of a below 512 and those of b below 256 no digit of the product reaches 2^30.
func times(a number, b number) number {
	var out number
	for i := 0; i < len(a); i++ {
		for j := 0; j <= i; j++ {
			out[i] += a[j] * b[i-j]
		}
		// 2^136 is 2^6 times 2^130, which leaves 5: the digits beyond the highest come in again 320 times.
		for j := i + 1; j < len(a); j++ {
			out[i] += 320 * a[j] * b[len(b)+i-j]
		}
	}
	return fold(out)
}

// fold brings what is above 2^130 in again at the bottom, five times, which is the same modulo 2^130 - 5.
func fold(n number) number {
	n = carry(n)
	over := n[16] >> 2
	n[16] &= 3
	n[0] += 5 * over
	return carry(n)
}

// leastOf gives the same modulo 2^130 - 5, below that, of a number that has been folded.
func leastOf(n number) number {
	// With 5 more it reaches 2^130 just if it is not below 2^130 - 5.
	more := n
	more[0] += 5
	more = carry(more)
	if more[16] < 4 {
		return n
	}
	more[16] -= 4
	return more
}
