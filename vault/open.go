package vault

import (
	"strongbox/aead"
	"strongbox/api"
	"strongbox/ground"
	"strongbox/head"
	"strongbox/kdf"
)

// readHeader asks for bytes until a header must have ended: what it gives need not be one (P13).
func readHeader(src *ground.Source) (string, api.Errno) {
	out := ""
	line := 0 // the place at which the line begins
	for len(out) < api.MaxHead {
		letter, e := gather(src, "", 1)
		if e != api.OK {
			return "", e
		}
		if letter == "" {
			return out, api.OK
		}
		out = out + letter
		if letter != "\n" {
			continue
		}
		if isMarked(out[line:]) {
			return out, api.OK
		}
		line = len(out)
	}
	return out, api.OK
}

func isMarked(line string) bool {
	return len(line) >= len(api.Mark) && line[:len(api.Mark)] == api.Mark
}

// gather asks for what is missing of n bytes behind those that it has got. If it gives fewer, the source has told its end.
func gather(src *ground.Source, got string, n int) (string, api.Errno) {
	for len(got) < n {
		piece, ended, e := src.Read(n - len(got))
		if e != api.OK {
			return "", api.ErrSource
		}
		if ended {
			return got, api.OK
		}
		got = got + piece
	}
	return got, api.OK
}

// openHeader gives the file's key, if the header is one, is for this master and is whole (P13).
func openHeader(master string, header string) (string, api.Errno) {
	h, e := head.Parse(header)
	if e != api.OK {
		return "", e
	}
	fileKey, e := unwrap(master, h)
	if e != api.OK {
		return "", e
	}
	mac := macOf(fileKey, header)
	if !kdf.Same(mac, h.Mac) {
		return "", api.ErrMac
	}
	return fileKey, api.OK
}

// unwrap gives the file's key from the first body that opens.
func unwrap(master string, h api.Head) (string, api.Errno) {
	nonce := noughts(api.NonceLen)
	for i := 0; i < len(h.Salts) && i < len(h.Bodies); i++ {
		key := kdf.Key(master, h.Salts[i], api.InWrap)
		fileKey, e := aead.Unseal(key, nonce, "", h.Bodies[i])
		if e == api.OK {
			return fileKey, api.OK
		}
	}
	return "", api.ErrKey
}
