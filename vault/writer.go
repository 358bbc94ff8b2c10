package vault

import (
	"strongbox/api"
	"strongbox/ground"
)

// Writer writes a file.
type Writer struct {
	sink   *ground.Sink
	key    string
	number uint64 // of the chunk that is being filled
	chunk  [api.ChunkLen]byte
	count  int // the bytes of that chunk
	// What each further call answers: OK as long as the writer is open and its sink has not failed.
	end api.Errno
}

// NewWriter begins a file (P11).
func NewWriter(masters []string, en *ground.Spring, sink *ground.Sink) (*Writer, api.Errno) {
	f, e := begin(masters, en)
	if e != api.OK {
		return nil, e
	}
	e = give(sink, f.header)
	if e != api.OK {
		return nil, e
	}
	e = give(sink, f.draw)
	if e != api.OK {
		return nil, e
	}
	return &Writer{sink: sink, key: f.key}, api.OK
}

// Write takes the bytes of p (P11).
func (w *Writer) Write(p string) (int, api.Errno) {
	if w.end != api.OK {
		return 0, w.end
	}
	for i := 0; i < len(p); i++ {
		// A full chunk waits for the byte behind it: until then it may be the last one.
		if w.count >= api.ChunkLen {
			e := w.send(false)
			if e != api.OK {
				return i, e
			}
		}
		w.chunk[w.count] = p[i]
		w.count++
	}
	return len(p), api.OK
}

// Close ends the file (P11).
func (w *Writer) Close() api.Errno {
	if w.end != api.OK {
		return w.end
	}
	e := w.send(true)
	if e != api.OK {
		return e
	}
	w.finish(api.ErrClosed)
	return api.OK
}

// send gives the sink the chunk and begins the next one.
func (w *Writer) send(last bool) api.Errno {
	text := w.text()
	box, e := sealChunk(w.key, w.number, last, text)
	if e != api.OK {
		w.finish(e)
		return e
	}
	e = give(w.sink, box)
	if e != api.OK {
		w.finish(e)
		return e
	}
	w.number++
	w.count = 0
	return api.OK
}

// text tells the bytes of the chunk that is being filled.
func (w *Writer) text() string {
	out := []byte{}
	for i := 0; i < w.count && i < api.ChunkLen; i++ {
		out = append(out, w.chunk[i])
	}
	return string(out)
}

// finish forgets all but the answer: neither the key nor the sink is needed again.
func (w *Writer) finish(end api.Errno) {
	*w = Writer{end: end}
}

// give hands text to the sink by one call.
func give(sink *ground.Sink, text string) api.Errno {
	n, e := sink.Write(text)
	if e != api.OK || n < len(text) {
		return api.ErrSink
	}
	return api.OK
}
