package vault

import (
	"strongbox/api"
	"strongbox/ground"
	"strongbox/kdf"
)

// Reader reads a file from its beginning to its end.
type Reader struct {
	src    *ground.Source
	key    string
	number uint64 // of the chunk that is opened next
	ahead  string // the byte that told that the chunk ahead of it is not the last one
	text   string // what was opened and has not been told yet
	// What is answered when there is no such text: OK as long as there are chunks to open.
	end api.Errno
}

// NewReader begins to read a file (P13).
func NewReader(master string, src *ground.Source) (*Reader, api.Errno) {
	if len(master) != api.KeyLen {
		return nil, api.ErrLen
	}
	header, e := readHeader(src)
	if e != api.OK {
		return nil, e
	}
	fileKey, e := openHeader(master, header)
	if e != api.OK {
		return nil, e
	}
	draw, e := gather(src, "", api.DrawLen)
	if e != api.OK {
		return nil, e
	}
	if len(draw) < api.DrawLen {
		return nil, api.ErrCut
	}
	key := kdf.Key(fileKey, draw, api.InBody)
	return &Reader{src: src, key: key}, api.OK
}

// Read tells the next bytes of the text (P13).
func (r *Reader) Read(n int) (string, api.Errno) {
	if n < 0 {
		return "", api.ErrArg
	}
	if n == 0 {
		return "", api.OK
	}
	if r.text == "" && r.end == api.OK {
		r.openNext()
	}
	if r.text == "" {
		return "", r.end
	}
	if n > len(r.text) {
		n = len(r.text)
	}
	out := r.text[:n]
	r.text = r.text[n:]
	return out, api.OK
}

// openNext lays the text of the next chunk ready, or the answer that is kept.
func (r *Reader) openNext() {
	got, e := gather(r.src, r.ahead, api.BoxLen+1)
	if e != api.OK {
		r.finish("", e)
		return
	}
	// Behind a chunk that was opened there is always a byte: this is the place of the first one.
	if got == "" {
		r.finish("", api.ErrCut)
		return
	}
	if len(got) <= api.BoxLen {
		r.openLast(got)
		return
	}
	text, e := openChunk(r.key, r.number, false, got[:api.BoxLen])
	if e != api.OK {
		r.finish("", e)
		return
	}
	r.text = text
	r.ahead = got[api.BoxLen:]
	r.number++
}

// openLast lays the text of the last chunk ready, with the end behind it.
func (r *Reader) openLast(box string) {
	text, e := openChunk(r.key, r.number, true, box)
	if e != api.OK {
		r.finish("", e)
		return
	}
	r.finish(text, api.ErrEnd)
}

// finish forgets all but what is still to be told: neither the key nor the source is needed again.
func (r *Reader) finish(text string, end api.Errno) {
	*r = Reader{text: text, end: end}
}
