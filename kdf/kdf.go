// Package kdf: macs and the derivation of keys: see DOC.md.
package kdf

import (
	"strongbox/api"
	"strongbox/sha2"
)

// Mac is an HMAC that takes its text in pieces.
type Mac struct {
	// Both hashers lie here by value, so that a copied Mac shares nothing with the first.
	inner sha2.Hasher
	outer sha2.Hasher
}

// Begin makes one under key that has taken nothing (P4).
func Begin(key string) *Mac {
	if len(key) > api.BlockLen {
		key = sha2.Sum(key)
	}
	inner := begun(key, 0x36)
	outer := begun(key, 0x5c)
	return &Mac{inner: *inner, outer: *outer}
}

// Write takes the bytes of s (P4).
func (m *Mac) Write(s string) {
	m.inner.Write(s)
}

// Sum tells the HMAC of what has been taken (P4).
func (m *Mac) Sum() string {
	hash := m.inner.Sum()
	// The outer hasher stays as it was, for the next Sum.
	outer := m.outer.Copy()
	outer.Write(hash)
	return outer.Sum()
}

// HMAC tells the HMAC of text under key (P4).
func HMAC(key string, text string) string {
	m := Begin(key)
	m.Write(text)
	return m.Sum()
}

// Extract makes a key of what is none yet (P4).
func Extract(salt string, ikm string) string {
	return HMAC(salt, ikm)
}

// Expand makes n bytes of the key prk for the use info (P4).
func Expand(prk string, info string, n int) (string, api.Errno) {
	if n < 0 || n > api.MaxOut {
		return "", api.ErrArg
	}
	return expand(prk, info, n), api.OK
}

// Key makes a key of ikm and salt for the use info (P4).
func Key(ikm string, salt string, info string) string {
	prk := Extract(salt, ikm)
	return expand(prk, info, api.KeyLen)
}

// Same tells whether a and b are the same (P4).
func Same(a string, b string) bool {
	if len(a) != len(b) {
		return false
	}
	// No early end: where the first other byte stands is not to be read off the time.
	var other byte
	for i := 0; i < len(a); i++ {
		other |= a[i] ^ b[i]
	}
	return other == 0
}

// begun makes a hasher that has taken the block of key, of at most 64 bytes, each byte xor mask.
func begun(key string, mask byte) *sha2.Hasher {
	block := make([]byte, api.BlockLen)
	copy(block, key)
	for i := 0; i < len(block); i++ {
		block[i] ^= mask
	}
	x := sha2.Begin()
	x.Write(string(block))
	return x
}

// expand is Expand without its bounds: n is from 0 to 8,160, so that i never outgrows its byte.
func expand(prk string, info string, n int) string {
	out := []byte{}
	last := ""
	for i := 1; len(out) < n; i++ {
		last = HMAC(prk, last+info+oneByte(i))
		out = append(out, last...)
	}
	return string(out[:n])
}

// oneByte is needed because string(i) would give the bytes of a rune.
func oneByte(i int) string {
	return string([]byte{byte(i)})
}
