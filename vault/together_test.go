package vault

import (
	"encoding/base64"
	"fmt"
	"math"
	"math/rand"
	"regexp"
	"strings"
	"testing"

	"strongbox/aead"
	"strongbox/api"
	"strongbox/ground"
	"strongbox/kdf"
)

var (
	markedEnd  = regexp.MustCompile("(^|\n)---[^\n]*\n$")
	headerForm = regexp.MustCompile("^tiny-box/1\n(-> wrap [A-Za-z0-9+/]{22} [A-Za-z0-9+/]{43}\n){1,3}--- [A-Za-z0-9+/]{43}\n$")
)

// modelReader is a reader once more: it keeps all bytes that have come and all text that was opened.
type modelReader struct {
	src   *ground.Source
	came  string
	over  bool
	body  int
	key   string
	count int
	text  string
	told  int
	end   api.Errno
}

// need asks until so many bytes have come in all, or the source has told its end.
func (m *modelReader) need(total int) api.Errno {
	for len(m.came) < total && !m.over {
		s, over, e := m.src.Read(total - len(m.came))
		if e != api.OK {
			return e
		}
		m.came += s
		m.over = over
	}
	return api.OK
}

func newModelReader(master string, src *ground.Source) (*modelReader, api.Errno) {
	m := &modelReader{src: src}
	if len(master) != 32 {
		return nil, api.ErrLen
	}
	for !m.over && len(m.came) < 284 && !(strings.HasSuffix(m.came, "\n") && markedEnd.MatchString(m.came)) {
		e := m.need(len(m.came) + 1)
		if e != api.OK {
			return nil, e
		}
	}
	fileKey, e := modelFileKey(master, m.came)
	if e != api.OK {
		return nil, e
	}
	m.body = len(m.came) + 16
	e = m.need(m.body)
	if e != api.OK {
		return nil, e
	}
	if len(m.came) < m.body {
		return nil, api.ErrCut
	}
	m.key = kdf.Key(fileKey, m.came[m.body-16:], "payload")
	return m, api.OK
}

// modelFileKey reads a header by its words, with the library's base64.
func modelFileKey(master string, header string) (string, api.Errno) {
	if !headerForm.MatchString(header) {
		return "", api.ErrHead
	}
	words := [][]byte{}
	for _, line := range strings.Split(header, "\n")[1:] {
		for _, word := range strings.Fields(line) {
			if len(word) < 22 {
				continue
			}
			b, err := base64.RawStdEncoding.Strict().DecodeString(word)
			if err != nil {
				return "", api.ErrHead
			}
			words = append(words, b)
		}
	}
	for i := 0; i+1 < len(words); i += 2 {
		fileKey, e := aead.Unseal(kdf.Key(master, string(words[i]), "wrap"), zeros(12), "", string(words[i+1]))
		if e != api.OK {
			continue
		}
		upTo := strings.LastIndex(header, "\n---") + 4
		if kdf.HMAC(kdf.Key(fileKey, "", "header"), header[:upTo]) != string(words[len(words)-1]) {
			return "", api.ErrMac
		}
		return fileKey, api.OK
	}
	return "", api.ErrKey
}

// modelChunk tries both endings, and says of the answers what the document says of them.
func modelChunk(key string, number int, last bool, box string) (string, api.Errno) {
	asMiddle, middle := aead.Unseal(key, referenceNonce(number, false), "", box)
	asLast, end := aead.Unseal(key, referenceNonce(number, true), "", box)
	switch {
	case last && end == api.OK && asLast == "" && number > 0:
		return "", api.ErrVoid
	case last && end == api.OK:
		return asLast, api.OK
	case last && middle == api.OK:
		return "", api.ErrCut
	case !last && middle == api.OK:
		return asMiddle, api.OK
	case !last && end == api.OK:
		return "", api.ErrTail
	}
	return "", api.ErrChunk
}

func (m *modelReader) read(n int) (string, api.Errno) {
	if n < 0 {
		return "", api.ErrArg
	}
	if n == 0 {
		return "", api.OK
	}
	if m.told == len(m.text) && m.end == api.OK {
		m.end = m.open()
	}
	if m.told == len(m.text) {
		return "", m.end
	}
	out := m.text[m.told:]
	out = out[:min(n, len(out))]
	m.told += len(out)
	return out, api.OK
}

// open answers what is to be said behind the chunk's text.
func (m *modelReader) open() api.Errno {
	at := m.body + 32*m.count
	e := m.need(at + 33)
	if e != api.OK {
		return e
	}
	rest := m.came[at:]
	if rest == "" {
		return api.ErrCut
	}
	text, e := modelChunk(m.key, m.count, len(rest) <= 32, rest[:min(32, len(rest))])
	if e != api.OK {
		return e
	}
	m.text += text
	m.count++
	if len(rest) <= 32 {
		return api.ErrEnd
	}
	return api.OK
}

// modelWhole is Decrypt once more.
func modelWhole(master string, file string) (string, api.Errno) {
	m, e := newModelReader(master, ground.SourceOf(file, nil))
	for e == api.OK {
		_, e = m.read(1000)
	}
	if e != api.ErrEnd {
		return "", e
	}
	return m.text, api.OK
}

// modelAt tells the text of each chunk of a file, or what is wrong with it.
func modelAt(master string, file string) (string, []api.Errno, api.Errno) {
	m, e := newModelReader(master, ground.SourceOf(file, nil))
	if e != api.OK {
		return "", nil, e
	}
	rest := file[m.body:]
	text := ""
	faults := []api.Errno{}
	for i := 0; 32*i < len(rest); i++ {
		last := 32*i+32 >= len(rest)
		piece, e := modelChunk(m.key, i, last, rest[32*i:min(32*i+32, len(rest))])
		if last && e != api.OK {
			return "", nil, e
		}
		if e != api.OK {
			piece = zeros(16)
		}
		text += piece
		faults = append(faults, e)
	}
	if len(faults) == 0 {
		return "", nil, api.ErrCut
	}
	return text, faults, api.OK
}

// wantAsModel holds a file's Decrypt, NewAt and places to the models.
func wantAsModel(t *testing.T, what string, master string, file string, places [][2]int) {
	t.Helper()
	got, e := Decrypt(master, file)
	want, wantErr := modelWhole(master, file)
	if got != want || e != wantErr {
		t.Errorf("%s: Decrypt: %x, %d, want %x, %d", what, got, e, want, wantErr)
	}
	a, e := NewAt(master, file)
	text, faults, wantErr := modelAt(master, file)
	if e != wantErr || (a == nil) != (e != api.OK) {
		t.Fatalf("%s: NewAt: %d, want %d", what, e, wantErr)
	}
	if e != api.OK {
		return
	}
	wantSize(t, what, a, len(text))
	for _, p := range places {
		want, wantErr := wantedAt(text, faults, p[0], p[1])
		wantReadAt(t, what, a, p[0], p[1], want, wantErr)
	}
}

// wantReaderAsModel reads by one reader and by its model, over sources of one plan, and compares them behind each call.
func wantReaderAsModel(t *testing.T, what string, master string, file string, plan []int, sizes []int) {
	t.Helper()
	src := ground.SourceOf(file, plan)
	other := ground.SourceOf(file, plan)
	r, e := NewReader(master, src)
	m, want := newModelReader(master, other)
	wantSource(t, what, src, other.Place(), other.Calls())
	if e != want || (r == nil) != (e != api.OK) {
		t.Fatalf("%s: NewReader: %d, want %d", what, e, want)
	}
	if e != api.OK {
		return
	}
	for _, n := range sizes {
		want, wantErr := m.read(n)
		wantRead(t, r, n, want, wantErr)
		wantSource(t, what, src, other.Place(), other.Calls())
	}
}

// All files of up to three pieces, which may be chunks of any place, or none.
func TestAllSequencesOfPieces(t *testing.T) {
	p := partsOf(t, 1, "")
	a, b := pattern(16, 3), pattern(7, 5)
	pieces := []string{"x", pattern(32, 9), boxOf(t, 1, false, b)}
	for number := range 3 {
		pieces = append(pieces, boxOf(t, number, false, a))
		for _, text := range []string{a, b, ""} {
			pieces = append(pieces, boxOf(t, number, true, text))
		}
	}
	places := [][2]int{{100, 0}, {16, 0}, {1, 15}, {2, 15}, {16, 16}, {1, 31}, {9, 31}, {0, 16}, {0, 48}, {0, 49}}
	sizes := []int{5, 100, 0, 16, 1, -1, 100, 100, 100}
	count := len(pieces)
	for i := range (count + 1) * (count + 1) * (count + 1) {
		body := ""
		for k := i; k > 0; k /= count + 1 {
			if k%(count+1) > 0 {
				body += pieces[k%(count+1)-1]
			}
		}
		what := fmt.Sprintf("sequence %d", i)
		wantAsModel(t, what, mastersOf(1)[0], p.header+p.draw+body, places)
		wantReaderAsModel(t, what, mastersOf(1)[0], p.header+p.draw+body, openPlan(145), sizes)
	}
}

// randomFile gives a file of the document's, or one that somebody has been at.
func randomFile(t *testing.T, r *rand.Rand, masters []string) string {
	t.Helper()
	n := 1 + r.Intn(len(masters))
	draws := randomText(r, 16*(n+2))
	p := referenceParts(t, masters[:n], draws, randomText(r, r.Intn(90)))
	last := len(p.chunks) - 1
	switch r.Intn(10) {
	case 0:
		return p.file()[:r.Intn(len(p.file()))]
	case 1:
		return changed(p.file(), r.Intn(len(p.file())), byte(1+r.Intn(255)))
	case 2:
		return p.file() + randomText(r, r.Intn(70))
	case 3:
		p.chunks[r.Intn(last+1)] = randomText(r, r.Intn(40))
	case 4:
		p.chunks = append(p.chunks[:last], sealed(t, p.key, referenceNonce(last, r.Intn(2) == 0), randomText(r, r.Intn(17))))
	case 5:
		i := r.Intn(last + 1)
		p.chunks[i] = sealed(t, p.key, referenceNonce(i, r.Intn(2) == 0), randomText(r, 16))
	case 6:
		i := r.Intn(last + 1)
		j := r.Intn(last + 1)
		p.chunks[i], p.chunks[j] = p.chunks[j], p.chunks[i]
	}
	return p.file()
}

func randomSourcePlan(r *rand.Rand) []int {
	plan := openPlan(r.Intn(400))
	for range r.Intn(200) {
		switch r.Intn(60) {
		case 0:
			plan = append(plan, -1-r.Intn(3))
		case 1, 2, 3, 4, 5:
			plan = append(plan, 0)
		default:
			plan = append(plan, r.Intn(40))
		}
	}
	return plan
}

func randomSize(r *rand.Rand) int {
	switch r.Intn(10) {
	case 0:
		return 0
	case 1:
		return -1 - r.Intn(1000)
	case 2:
		return math.MaxInt - r.Intn(3)
	}
	return 1 + r.Intn(20)
}

// pairs are readers with their models, over sources that each has for itself, but which several of its kind share.
type pairs struct {
	sources, other []*ground.Source
	readers        []*Reader
	models         []*modelReader
}

func (p *pairs) begin(t *testing.T, r *rand.Rand, masters []string) {
	t.Helper()
	i := r.Intn(len(p.sources))
	master := masters[r.Intn(len(masters))]
	reader, e := NewReader(master, p.sources[i])
	model, want := newModelReader(master, p.other[i])
	if e != want || (reader == nil) != (e != api.OK) {
		t.Fatalf("NewReader: %d, want %d", e, want)
	}
	if e == api.OK {
		p.readers = append(p.readers, reader)
		p.models = append(p.models, model)
	}
}

func (p *pairs) check(t *testing.T) {
	t.Helper()
	for i := range p.sources {
		wantSource(t, fmt.Sprintf("source %d", i), p.sources[i], p.other[i].Place(), p.other[i].Calls())
	}
}

// Many readers live side by side, some on one source, which may hold several files, one behind the other.
func TestReadersSideBySide(t *testing.T) {
	r := rand.New(rand.NewSource(5))
	for range 400 {
		masters := []string{randomText(r, 32), randomText(r, 32), randomText(r, 32)}
		p := &pairs{}
		for range 3 {
			file := randomFile(t, r, masters)
			if r.Intn(2) == 0 {
				file += randomFile(t, r, masters)
			}
			plan := randomSourcePlan(r)
			p.sources = append(p.sources, ground.SourceOf(file, plan))
			p.other = append(p.other, ground.SourceOf(file, plan))
		}
		for range 40 {
			if len(p.readers) == 0 || r.Intn(8) == 0 {
				p.begin(t, r, masters)
				p.check(t)
				continue
			}
			i := r.Intn(len(p.readers))
			n := randomSize(r)
			want, wantErr := p.models[i].read(n)
			wantRead(t, p.readers[i], n, want, wantErr)
			p.check(t)
		}
	}
}

func TestRandomFiles(t *testing.T) {
	r := rand.New(rand.NewSource(6))
	for i := range 500 {
		masters := []string{randomText(r, 32), randomText(r, 32), randomText(r, 32)}
		file := randomFile(t, r, masters)
		places := [][2]int{}
		sizes := []int{}
		for range 20 {
			places = append(places, [2]int{randomSize(r), randomSize(r) % 100})
			sizes = append(sizes, randomSize(r))
		}
		for _, master := range masters {
			wantAsModel(t, fmt.Sprintf("file %d", i), master, file, places)
			wantReaderAsModel(t, fmt.Sprintf("file %d", i), master, file, randomSourcePlan(r), sizes)
		}
	}
}

// Two readers of one source, told by hand: each has what it has got from it, and what is gone is gone for both.
func TestTwoReadersOfOneSource(t *testing.T) {
	one := partsOf(t, 1, pattern(40, 11))
	two := partsOf(t, 2, pattern(20, 13))
	src := ground.SourceOf(one.file()+two.file(), openPlan(1000))
	a := newReader(t, mastersOf(1)[0], src)
	wantRead(t, a, 20, pattern(40, 11)[:16], api.OK)
	wantSource(t, "the first", src, 183, 136)
	// The second begins in the midst of the first one's chunks, and takes all up to the end of the other file's header.
	wantNoReader(t, "the second", mastersOf(2)[1], src, api.ErrHead)
	wantSource(t, "the second", src, 238+209, 136+264)
	wantRead(t, a, 20, "", api.ErrChunk)
	wantSource(t, "the first again", src, 238+209+32, 136+264+1)
	wantKept(t, "the first again", a, src, api.ErrChunk)

	// Two that read in turns from a source that holds their chunks in turns.
	src = ground.SourceOf(one.header+one.draw+two.header+two.draw+one.chunks[0]+one.chunks[1][:1]+two.chunks[0]+two.chunks[1][:1]+one.chunks[1][1:]+one.chunks[2][:1]+two.chunks[1][1:], openPlan(1000))
	a = newReader(t, mastersOf(1)[0], src)
	b := newReader(t, mastersOf(2)[1], src)
	wantRead(t, a, 5, pattern(40, 11)[:5], api.OK)
	wantRead(t, b, 16, pattern(20, 13)[:16], api.OK)
	wantRead(t, a, 16, pattern(40, 11)[5:16], api.OK)
	wantRead(t, a, 16, pattern(40, 11)[16:32], api.OK)
	wantRead(t, b, 16, pattern(20, 13)[16:], api.OK)
	// The end that the other one was told is told to this one too: it has only a byte of its last chunk.
	wantRead(t, a, 16, "", api.ErrChunk)
	wantRead(t, b, 16, "", api.ErrEnd)
}

// A reader beside a writer and a file read at places, in turns: none of them is changed by the others.
func TestReaderBesideWriterAndPlaces(t *testing.T) {
	text := pattern(90, 11)
	file := partsOf(t, 2, text).file()
	src := ground.SourceOf(file, openPlan(1000))
	sink := ground.SinkOf(openPlan(100))
	w := newWriter(t, mastersOf(2), ground.SpringOf(pattern(64, 7)), sink)
	r := newReader(t, mastersOf(2)[1], src)
	a := newAt(t, mastersOf(2)[0], file)
	for i := range 90 {
		wantRead(t, r, 1, text[i:i+1], api.OK)
		wantWrite(t, w, text[i:i+1], 1, api.OK)
		wantReadAt(t, "beside others", a, 1, 89-i, text[89-i:90-i], api.OK)
		place, calls := askedBy(2, i+1, 90)
		wantSource(t, "beside others", src, place, calls)
	}
	// An error of one is none of the others.
	wantReadAt(t, "beside others", a, -1, 0, "", api.ErrArg)
	wantRead(t, r, 1, "", api.ErrEnd)
	wantClose(t, w, api.OK)
	wantSize(t, "beside others", a, 90)
	wantReadAt(t, "beside others", a, 90, 0, text, api.OK)
	if sink.Got() != file {
		t.Errorf("another file was written")
	}
}

// What a writer has written so far is no whole file, until it is closed.
func TestWhatAWriterHasWritten(t *testing.T) {
	text := pattern(60, 11)
	sink := ground.SinkOf(nil)
	w := newWriter(t, mastersOf(1), ground.SpringOf(pattern(48, 7)), sink)
	for i := range 61 {
		wantText(t, "not closed", mastersOf(1)[0], sink.Got(), text[:16*max(0, chunksOut(i)-1)], api.ErrCut)
		wantNoAt(t, "not closed", mastersOf(1)[0], sink.Got(), api.ErrCut)
		if i < 60 {
			wantWrite(t, w, text[i:i+1], 1, api.OK)
		}
	}
	wantClose(t, w, api.OK)
	wantText(t, "closed", mastersOf(1)[0], sink.Got(), text, api.ErrEnd)
}

// A reader that is copied goes on as two, which share the source alone.
func TestCopiedReader(t *testing.T) {
	text := pattern(40, 11)
	p := partsOf(t, 1, text)
	file := p.header + p.draw + p.chunks[0] + p.chunks[1] + p.chunks[1][1:] + p.chunks[2]
	src := ground.SourceOf(file, nil)
	r := newReader(t, mastersOf(1)[0], src)
	wantRead(t, r, 3, text[:3], api.OK)
	c := *r
	wantRead(t, &c, 99, text[3:16], api.OK)
	wantRead(t, r, 1, text[3:4], api.OK)
	wantRead(t, r, 99, text[4:16], api.OK)
	// The byte behind the second chunk is the second one's second byte: it is not looked at until the third.
	wantRead(t, r, 99, text[16:32], api.OK)
	wantRead(t, &c, 99, "", api.ErrChunk)
	wantRead(t, r, 99, "", api.ErrChunk)
}

func FuzzDecrypt(f *testing.F) {
	p := func(n int) parts {
		masters := mastersOf(3)[:n]
		file, _ := Encrypt(masters, ground.SpringOf(pattern(200, 7)), pattern(37, 11))
		return cutParts(file, n)
	}
	for n := 1; n <= 3; n++ {
		f.Add(mastersOf(3)[n-1], p(n).file(), 5, 20)
		f.Add(mastersOf(3)[0], p(n).file()[:170], math.MinInt, math.MaxInt)
		f.Add(pattern(32, 9), p(n).header, 0, -1)
	}
	f.Add("", "", 0, 0)
	f.Add(pattern(32, 1), "tiny-box/1\n---\n", 1, 1)
	f.Fuzz(func(t *testing.T, master string, file string, n int, off int) {
		wantAsModel(t, "a file", master, file, [][2]int{{n, off}, {off, n}, {n, 0}, {math.MaxInt, off}, {math.MaxInt, math.MaxInt}})
	})
}

// The chunks are those of the true file, each changed by the bytes of a text: a file that opens is met often.
func FuzzReader(f *testing.F) {
	f.Add("", "", 16, 0)
	f.Add("\x01\x00\x00\x05\x20\x21", "0123456", 5, 100)
	f.Add("\xff\x20\x00\xff", "7777", 1, math.MaxInt)
	f.Fuzz(func(t *testing.T, steps string, order string, n int, cut int) {
		p := partsOf(t, 2, pattern(70, 11))
		body := ""
		for _, c := range []byte(order) {
			i := int(c) % 9
			if i < len(p.chunks) {
				body += p.chunks[i]
			} else {
				body += sealed(t, p.key, referenceNonce(i-5, c&16 == 0), pattern(int(c)%17, 3))
			}
		}
		if order == "" {
			body = strings.Join(p.chunks, "")
		}
		file := p.header + p.draw + body
		file = file[:min(len(file), min(max(cut, 0), len(file))+200)]
		plan := openPlan(min(max(cut, 0), 250))
		for _, c := range []byte(steps) {
			plan = append(plan, int(int8(c)))
		}
		wantReaderAsModel(t, "a file", mastersOf(2)[1], file, plan, []int{n, 0, n, -n, n, 1, 16, n, n, 100, 100, 100, 100})
		wantAsModel(t, "a file", mastersOf(2)[0], file, [][2]int{{n, cut}, {cut, n}, {100, 0}, {16, 16}})
	})
}
