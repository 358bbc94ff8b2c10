package vault

import (
	"strongbox/aead"
	"strongbox/api"
)

// sealChunk seals the text of one chunk (P10).
func sealChunk(key string, number uint64, last bool, text string) (string, api.Errno) {
	nonce := nonceOf(number, last)
	return aead.Seal(key, nonce, "", text)
}

// openChunk gives the text of the box that stands at the place of one chunk, or tells its fault (P13).
func openChunk(key string, number uint64, last bool, box string) (string, api.Errno) {
	nonce := nonceOf(number, last)
	text, e := aead.Unseal(key, nonce, "", box)
	if e == api.OK {
		if last && number > 0 && text == "" {
			return "", api.ErrVoid
		}
		return text, api.OK
	}
	// A box that opens with the other ending is a true one, but the file's end is not where its writer put it.
	other := nonceOf(number, !last)
	text, e = aead.Unseal(key, other, "", box)
	if e != api.OK {
		return "", api.ErrChunk
	}
	if last {
		return "", api.ErrCut
	}
	return "", api.ErrTail
}

// nonceOf gives the nonce of a chunk: its number in eleven bytes, the highest first, then whether it is the last one.
func nonceOf(number uint64, last bool) string {
	// Eight bytes hold every number, so the three ahead of them are always 0.
	out := []byte{0, 0, 0}
	for n := uint32(64); n > 0; n -= 8 {
		out = append(out, byte(number>>(n-8)))
	}
	var flag byte
	if last {
		flag = 1
	}
	out = append(out, flag)
	return string(out)
}
