package vault

import (
	"strongbox/aead"
	"strongbox/api"
	"strongbox/ground"
	"strongbox/head"
	"strongbox/kdf"
)

// behindMark is what stands behind the mark of a header's last line: a blank, the 43 letters of the MAC, a line feed.
const behindMark = 1 + 43 + 1

// beginning is what a file has ahead of its chunks, and the key under which these are sealed.
type beginning struct {
	header string
	draw   string
	key    string
}

// begin draws what a file needs, in the order of P11, and lays its beginning together.
func begin(masters []string, en *ground.Spring) (beginning, api.Errno) {
	e := checkMasters(masters)
	if e != api.OK {
		return beginning{}, e
	}
	salts, e := drawSalts(len(masters), en)
	if e != api.OK {
		return beginning{}, e
	}
	fileKey, e := en.Draw(api.DrawLen)
	if e != api.OK {
		return beginning{}, e
	}
	draw, e := en.Draw(api.DrawLen)
	if e != api.OK {
		return beginning{}, e
	}
	header, e := makeHeader(masters, salts, fileKey)
	if e != api.OK {
		return beginning{}, e
	}
	key := kdf.Key(fileKey, draw, api.InBody)
	return beginning{header: header, draw: draw, key: key}, api.OK
}

func checkMasters(masters []string) api.Errno {
	if len(masters) < 1 || len(masters) > api.MaxWraps {
		return api.ErrArg
	}
	for i := 0; i < len(masters); i++ {
		if len(masters[i]) != api.KeyLen {
			return api.ErrLen
		}
	}
	return api.OK
}

func drawSalts(n int, en *ground.Spring) ([]string, api.Errno) {
	salts := []string{}
	for i := 0; i < n; i++ {
		salt, e := en.Draw(api.DrawLen)
		if e != api.OK {
			return nil, e
		}
		salts = append(salts, salt)
	}
	return salts, api.OK
}

// makeHeader writes the header of P10: there are as many salts as masters.
func makeHeader(masters []string, salts []string, fileKey string) (string, api.Errno) {
	bodies := []string{}
	for i := 0; i < len(masters) && i < len(salts); i++ {
		body, e := wrap(masters[i], salts[i], fileKey)
		if e != api.OK {
			return "", e
		}
		bodies = append(bodies, body)
	}
	// The MAC is of the header's own text, so that is printed with another in its place first.
	h := api.Head{Salts: salts, Bodies: bodies, Mac: noughts(api.HashLen)}
	draft, e := head.Print(h)
	if e != api.OK {
		return "", e
	}
	h.Mac = macOf(fileKey, draft)
	return head.Print(h)
}

// wrap seals the file's key for one master.
func wrap(master string, salt string, fileKey string) (string, api.Errno) {
	key := kdf.Key(master, salt, api.InWrap)
	nonce := noughts(api.NonceLen)
	return aead.Seal(key, nonce, "", fileKey)
}

// macOf tells the MAC that a header must have, whichever it has.
func macOf(fileKey string, header string) string {
	end := len(header) - behindMark
	if end < 0 {
		end = 0
	}
	key := kdf.Key(fileKey, "", api.InHead)
	return kdf.HMAC(key, header[:end])
}

// noughts gives n bytes 0.
func noughts(n int) string {
	out := []byte{}
	for i := 0; i < n; i++ {
		out = append(out, 0)
	}
	return string(out)
}
