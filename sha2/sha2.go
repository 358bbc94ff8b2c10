// Package sha2: the hash: see DOC.md.
package sha2

import "strongbox/api"

// Hasher is a hash that takes its text in pieces.
type Hasher struct {
	words [8]uint32
	// Only the first count % 64 bytes count: the rest is left from earlier blocks.
	block [api.BlockLen]byte
	count uint64
}

// Begin makes one that has taken nothing (P3).
func Begin() *Hasher {
	return &Hasher{words: firstWords}
}

// Write takes the bytes of s (P3).
func (x *Hasher) Write(s string) {
	for i := 0; i < len(s); i++ {
		x.takeByte(s[i])
	}
}

// Sum tells the hash of what has been taken (P3).
func (x *Hasher) Sum() string {
	// The padding goes into a copy, so that more may be taken behind a Sum.
	c := x.Copy()
	c.pad()
	return wordBytes(c.words)
}

// Reset forgets what has been taken (P3).
func (x *Hasher) Reset() {
	*x = Hasher{words: firstWords}
}

// Copy makes another that has taken the same (P3).
func (x *Hasher) Copy() *Hasher {
	c := *x
	return &c
}

// Sum tells the hash of s (P3).
func Sum(s string) string {
	x := Begin()
	x.Write(s)
	return x.Sum()
}

func (x *Hasher) takeByte(b byte) {
	x.block[x.count%api.BlockLen] = b
	x.count++
	if x.count%api.BlockLen == 0 {
		w := spread(x.block)
		x.words = mix(x.words, w)
	}
}

func (x *Hasher) pad() {
	// The length is that of the text alone, so it is read ahead of the padding.
	bits := x.count * 8
	x.takeByte(128)
	for x.count%api.BlockLen != api.BlockLen-8 {
		x.takeByte(0)
	}
	for n := uint32(64); n > 0; n -= 8 {
		x.takeByte(byte(bits >> (n - 8)))
	}
}

func wordBytes(words [8]uint32) string {
	out := []byte{}
	for i := 0; i < len(words); i++ {
		v := words[i]
		out = append(out, byte(v>>24), byte(v>>16), byte(v>>8), byte(v))
	}
	return string(out)
}
