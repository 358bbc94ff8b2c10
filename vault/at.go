package vault

import (
	"strongbox/api"
	"strongbox/ground"
)

// At reads a file at any place.
type At struct {
	key    string
	chunks string // all of them, one behind the other
	size   int    // of the text
}

// NewAt begins to read at places (P15).
func NewAt(master string, file string) (*At, api.Errno) {
	src := ground.SourceOf(file, nil)
	r, e := NewReader(master, src)
	if e != api.OK {
		return nil, e
	}
	at := src.Place()
	if at >= len(file) {
		return nil, api.ErrCut
	}
	a := &At{key: r.key, chunks: file[at:]}
	number := (len(a.chunks) - 1) / api.BoxLen
	// The end of the text is known only if the last chunk is a true one.
	text, e := a.open(number)
	if e != api.OK {
		return nil, e
	}
	a.size = number*api.ChunkLen + len(text)
	return a, api.OK
}

// Size tells how many bytes the text has (P15).
func (a *At) Size() int {
	return a.size
}

// Read tells n bytes of the text from off on (P15).
func (a *At) Read(n int, off int) (string, api.Errno) {
	if n < 0 || off < 0 {
		return "", api.ErrArg
	}
	if off > a.size {
		return "", api.ErrEnd
	}
	// off + n may be more than an int can be, so what is left is reckoned instead.
	if n <= a.size-off {
		return a.span(off, off+n)
	}
	out, e := a.span(off, a.size)
	if e != api.OK {
		return out, e
	}
	return out, api.ErrEnd
}

// span tells the bytes of the text from one place up to another, as far as the chunks open.
func (a *At) span(from int, to int) (string, api.Errno) {
	out := []byte{}
	for from < to {
		number := from / api.ChunkLen
		text, e := a.open(number)
		if e != api.OK {
			return string(out), e
		}
		begin := number * api.ChunkLen
		end := begin + api.ChunkLen
		if end > to {
			end = to
		}
		piece := between(text, from-begin, end-begin)
		out = append(out, piece...)
		from = end
	}
	return string(out), api.OK
}

// open gives the text of one chunk.
func (a *At) open(number int) (string, api.Errno) {
	begin := number * api.BoxLen
	end := begin + api.BoxLen
	last := end >= len(a.chunks)
	box := between(a.chunks, begin, end)
	return openChunk(a.key, uint64(number), last, box)
}

// between gives the bytes of text from one place up to another, as far as it has them.
func between(text string, from int, to int) string {
	if to > len(text) {
		to = len(text)
	}
	if from < 0 || from >= to {
		return ""
	}
	return text[from:to]
}
