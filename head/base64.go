package head

import "strongbox/api"

// The letters of base64, each at the place of its number.
const letters = "ABCDEFGHIJKLMNOPQRSTUVWXYZabcdefghijklmnopqrstuvwxyz0123456789+/"

// noLetter is the number of every byte that is no letter.
const noLetter = 64

// Encode tells the base64 of s (P8).
func Encode(s string) string {
	out := []byte{}
	// The lowest count bits have not gone out yet; those above them have, and may fall off.
	var bits uint32
	var count uint32
	for i := 0; i < len(s); i++ {
		bits = bits<<8 | uint32(s[i])
		count += 8
		for count >= 6 {
			count -= 6
			out = append(out, letters[bits>>count&63])
		}
	}
	if count > 0 {
		out = append(out, letters[bits<<(6-count)&63])
	}
	return string(out)
}

// Decode tells of what t is the base64 (P8).
func Decode(t string) (string, api.Errno) {
	out := []byte{}
	var bits uint32
	var count uint32
	for i := 0; i < len(t); i++ {
		v := numberOf(t[i])
		if v == noLetter {
			return "", api.ErrForm
		}
		bits = bits<<6 | v
		count += 6
		if count >= 8 {
			count -= 8
			out = append(out, byte(bits>>count))
		}
	}
	// A whole letter behind the last byte is one that no text needs.
	if count >= 6 {
		return "", api.ErrForm
	}
	behind := bits & (1<<count - 1)
	if behind != 0 {
		return "", api.ErrForm
	}
	return string(out), api.OK
}

// numberOf tells the number of a letter: below 64, or noLetter.
func numberOf(letter byte) uint32 {
	for i := 0; i < len(letters); i++ {
		if letters[i] == letter {
			return uint32(i)
		}
	}
	return noLetter
}
