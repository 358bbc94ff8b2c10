package vault

import (
	"encoding/base64"
	"fmt"
	"math"
	"slices"
	"strings"
	"testing"

	"strongbox/api"
	"strongbox/ground"
	"strongbox/head"
	"strongbox/kdf"
)

// edges are the lengths of texts at which the chunks change.
var edges = []int{0, 1, 15, 16, 17, 32, 33}

// partsOf gives the parts of a file for n masters, whose draws are always the same.
func partsOf(t *testing.T, n int, text string) parts {
	t.Helper()
	return referenceParts(t, mastersOf(n), pattern(16*(n+2), 7), text)
}

// bodyAt is where the chunks of a file for n masters begin.
func bodyAt(n int) int { return 59 + 75*n + 16 }

// boxOf seals text as a chunk of the files that partsOf gives for one master.
func boxOf(t *testing.T, number int, last bool, text string) string {
	t.Helper()
	return sealed(t, partsOf(t, 1, "").key, referenceNonce(number, last), text)
}

func newReader(t *testing.T, master string, src *ground.Source) *Reader {
	t.Helper()
	r, e := NewReader(master, src)
	if e != api.OK || r == nil {
		t.Fatalf("NewReader: %d", e)
	}
	return r
}

func wantNoReader(t *testing.T, what string, master string, src *ground.Source, want api.Errno) {
	t.Helper()
	r, e := NewReader(master, src)
	if e != want || r != nil {
		t.Errorf("%s: NewReader: %d, want %d", what, e, want)
	}
}

func wantRead(t *testing.T, r *Reader, n int, want string, wantErr api.Errno) {
	t.Helper()
	got, e := r.Read(n)
	if got != want || e != wantErr {
		t.Errorf("Read(%d): %x, %d, want %x, %d", n, got, e, want, wantErr)
	}
}

func wantSource(t *testing.T, what string, src *ground.Source, place int, calls int) {
	t.Helper()
	if src.Place() != place || src.Calls() != calls {
		t.Errorf("%s: the source is at %d behind %d calls, want %d behind %d", what, src.Place(), src.Calls(), place, calls)
	}
}

// wantKept tries a reader that has met an error, again and again: the source is not asked.
func wantKept(t *testing.T, what string, r *Reader, src *ground.Source, want api.Errno) {
	t.Helper()
	place := src.Place()
	calls := src.Calls()
	for range 2 {
		for _, n := range []int{1, 16, 17, math.MaxInt} {
			wantRead(t, r, n, "", want)
			wantRead(t, r, 0, "", api.OK)
			wantRead(t, r, -n, "", api.ErrArg)
		}
	}
	wantSource(t, what+", behind the error", src, place, calls)
}

// readAll reads in pieces of n bytes up to an error.
func readAll(r *Reader, n int) (string, api.Errno) {
	out := ""
	for {
		s, e := r.Read(n)
		if e != api.OK {
			return out, e
		}
		out += s
	}
}

// wantText reads a whole file by a reader and by Decrypt: want is what the reader tells ahead of its error, which may be the end.
func wantText(t *testing.T, what string, master string, file string, want string, wantErr api.Errno) {
	t.Helper()
	src := ground.SourceOf(file, openPlan(len(file)+100))
	r, e := NewReader(master, src)
	if e != api.OK {
		t.Errorf("%s: NewReader: %d", what, e)
		return
	}
	got, e := readAll(r, 16)
	if got != want || e != wantErr {
		t.Errorf("%s: read are %x, %d, want %x, %d", what, got, e, want, wantErr)
	}
	wantKept(t, what, r, src, wantErr)
	whole := want
	wholeErr := api.OK
	if wantErr != api.ErrEnd {
		whole = ""
		wholeErr = wantErr
	}
	got, e = Decrypt(master, file)
	if got != whole || e != wholeErr {
		t.Errorf("%s: Decrypt: %x, %d, want %x, %d", what, got, e, whole, wholeErr)
	}
}

// wantNothing is the same of a file that no reader begins with.
func wantNothing(t *testing.T, what string, master string, file string, want api.Errno) {
	t.Helper()
	wantNoReader(t, what, master, ground.SourceOf(file, nil), want)
	got, e := Decrypt(master, file)
	if got != "" || e != want {
		t.Errorf("%s: Decrypt: %x, %d, want %d", what, got, e, want)
	}
	wantNoAt(t, what, master, file, want)
}

// The document's examples.
func TestKnownReader(t *testing.T) {
	text := pattern(17, 11)
	file := encrypted(t, mastersOf(1), pattern(48, 7), text)
	src := ground.SourceOf(file, nil)
	r := newReader(t, mastersOf(1)[0], src)
	for _, c := range []struct {
		n     int
		want  string
		e     api.Errno
		place int
	}{{5, text[:5], api.OK, 183}, {100, text[5:16], api.OK, 183}, {100, text[16:], api.OK, 199}, {100, "", api.ErrEnd, 199}, {100, "", api.ErrEnd, 199}, {0, "", api.OK, 199}} {
		wantRead(t, r, c.n, c.want, c.e)
		if src.Place() != c.place {
			t.Errorf("behind Read(%d) the source is at %d, want %d", c.n, src.Place(), c.place)
		}
	}
	wantText(t, "without its last byte", mastersOf(1)[0], file[:198], text[:16], api.ErrChunk)
	wantText(t, "cut behind its first chunk", mastersOf(1)[0], file[:182], "", api.ErrCut)
	wantText(t, "with a byte behind it", mastersOf(1)[0], file+"x", text[:16], api.ErrChunk)
}

func TestMastersOfOtherLengths(t *testing.T) {
	file := partsOf(t, 1, "text").file()
	for _, n := range []int{0, 1, 16, 31, 33, 48, 64, 1000} {
		for _, text := range []string{"", "no header", file} {
			for _, first := range []int{all, 0, -1} {
				src := ground.SourceOf(text, []int{first, all, all})
				wantNoReader(t, fmt.Sprintf("a master of %d bytes", n), pattern(n, 1), src, api.ErrLen)
				wantSource(t, "a bad master", src, 0, 0)
			}
			wantNothing(t, fmt.Sprintf("a master of %d bytes", n), pattern(n, 1), text, api.ErrLen)
		}
	}
}

// askedBy tells how often a source that gives all has been asked when so much of a text has been told, and where it is.
func askedBy(masters int, told int, size int) (int, int) {
	calls := 59 + 75*masters + 1
	place := bodyAt(masters)
	opened := (told + 15) / 16
	all := max(1, (size+15)/16)
	if opened == 0 {
		return place, calls
	}
	if opened < all {
		return place + 32*opened + 1, calls + opened
	}
	// Of the last chunk fewer bytes come than are asked for: it is asked once more, and tells its end.
	return place + 16*all + size, calls + all + 1
}

func TestReadInPieces(t *testing.T) {
	for masters := 1; masters <= 3; masters++ {
		for _, size := range append([]int{50, 64}, edges...) {
			text := pattern(size, 11)
			file := encrypted(t, mastersOf(masters), pattern(16*(masters+2), 7), text)
			pieces := []int{math.MaxInt}
			for n := 1; n <= size+2; n++ {
				pieces = append(pieces, n)
			}
			for i, master := range mastersOf(masters) {
				for _, n := range pieces {
					what := fmt.Sprintf("%d bytes, master %d of %d, pieces of %d", size, i, masters, n)
					src := ground.SourceOf(file, openPlan(1000))
					r := newReader(t, master, src)
					told := 0
					for told < size {
						place, calls := askedBy(masters, told, size)
						wantRead(t, r, 0, "", api.OK)
						wantRead(t, r, -n, "", api.ErrArg)
						wantSource(t, what, src, place, calls)
						step := min(n, 16-told%16, size-told)
						wantRead(t, r, n, text[told:told+step], api.OK)
						told += step
						place, calls = askedBy(masters, told, size)
						wantSource(t, what, src, place, calls)
					}
					wantRead(t, r, n, "", api.ErrEnd)
					wantKept(t, what, r, src, api.ErrEnd)
					if size == 0 {
						wantSource(t, what, src, bodyAt(masters)+16, 59+75*masters+3)
					}
				}
			}
		}
	}
}

// Pieces of mixed lengths: what was asked for last is nothing to the next call.
func TestReadInMixedPieces(t *testing.T) {
	text := pattern(70, 11)
	file := partsOf(t, 1, text).file()
	src := ground.SourceOf(file, openPlan(300))
	r := newReader(t, mastersOf(1)[0], src)
	told := 0
	for _, n := range []int{3, 13, 1, math.MaxInt, 0, 16, 15, 1, 1, 2, 100} {
		step := min(n, 16-told%16, len(text)-told)
		wantRead(t, r, n, text[told:told+step], api.OK)
		told += step
		place, calls := askedBy(1, told, len(text))
		wantSource(t, fmt.Sprintf("behind %d bytes", told), src, place, calls)
	}
	wantRead(t, r, 1, "", api.ErrEnd)
	if told != len(text) {
		t.Errorf("%d bytes were told", told)
	}
}

// slow is a plan by which each byte comes alone, behind some calls that give nothing.
func slow(bytes int, nothings int) []int {
	plan := []int{}
	for range bytes {
		for range nothings {
			plan = append(plan, 0)
		}
		plan = append(plan, 1)
	}
	return plan
}

func TestSlowSources(t *testing.T) {
	for masters := 1; masters <= 3; masters++ {
		for _, size := range edges {
			text := pattern(size, 11)
			file := partsOf(t, masters, text).file()
			for nothings := range 4 {
				for _, n := range []int{1, 5, 16, 100} {
					what := fmt.Sprintf("%d bytes for %d, %d nothings", size, masters, nothings)
					src := ground.SourceOf(file, append(slow(len(file)+1, nothings), all, all, all))
					r := newReader(t, mastersOf(masters)[masters-1], src)
					each := nothings + 1
					wantSource(t, what+", begun", src, bodyAt(masters), each*bodyAt(masters))
					told := 0
					for told < size {
						step := min(n, 16-told%16, size-told)
						wantRead(t, r, n, text[told:told+step], api.OK)
						told += step
						place, _ := askedBy(masters, told, size)
						calls := each * place
						if place == len(file) {
							calls += each
						}
						wantSource(t, what, src, place, calls)
					}
					wantRead(t, r, n, "", api.ErrEnd)
					wantSource(t, what, src, len(file), each*(len(file)+1))
					wantKept(t, what, r, src, api.ErrEnd)
				}
			}
		}
	}
}

// What a source gives of the bytes that it is asked for is its own matter: it is asked for the rest.
func TestSourcesAreAskedForWhatIsMissing(t *testing.T) {
	p := partsOf(t, 1, pattern(40, 11))
	file := p.file()
	plan := openPlan(134)
	// The draw comes as 5 + 0 + 11, the first chunk and a byte as 30 + 3, the next one as 1 + 0 + 31, the rest as 7 + 16 + the end.
	plan = append(plan, 5, 0, all, 30, all, 1, 0, all, 7, all, all, all)
	src := ground.SourceOf(file, plan)
	r := newReader(t, mastersOf(1)[0], src)
	wantSource(t, "begun", src, 150, 137)
	wantRead(t, r, 16, pattern(40, 11)[:16], api.OK)
	wantSource(t, "one chunk", src, 183, 139)
	wantRead(t, r, 16, pattern(40, 11)[16:32], api.OK)
	wantSource(t, "two chunks", src, 215, 142)
	wantRead(t, r, 16, pattern(40, 11)[32:], api.OK)
	wantSource(t, "the last one", src, 238, 145)
	wantRead(t, r, 16, "", api.ErrEnd)
	wantSource(t, "the end", src, 238, 145)
}

// Nothing for now is not the end, also where the text has ended.
func TestNothingForNowAtTheEnd(t *testing.T) {
	text := pattern(32, 11)
	file := partsOf(t, 1, text).file()
	plan := append(openPlan(135), all, all, 0, 0, 0, 1, -1)
	src := ground.SourceOf(file, plan)
	r := newReader(t, mastersOf(1)[0], src)
	wantRead(t, r, 99, text[:16], api.OK)
	wantRead(t, r, 99, text[16:], api.OK)
	wantSource(t, "the end", src, len(file), 141)
	wantKept(t, "nothing for now", r, src, api.ErrEnd)
}

// A source that gives byte by byte fails at each of its calls: the last one would have told its end.
func TestSourceThatFailsAtEachByte(t *testing.T) {
	for masters := 1; masters <= 3; masters++ {
		for _, size := range edges {
			text := pattern(size, 11)
			file := partsOf(t, masters, text).file()
			for at := range len(file) + 1 {
				for nothings := range 2 {
					for _, fault := range []int{-1, math.MinInt} {
						what := fmt.Sprintf("%d bytes for %d, the source fails at byte %d", size, masters, at)
						plan := append(slow(at, nothings), fault, all, all, all, all, all)
						src := ground.SourceOf(file, plan)
						calls := (nothings+1)*at + 1
						if at < bodyAt(masters) {
							wantNoReader(t, what, mastersOf(masters)[0], src, api.ErrSource)
							wantSource(t, what, src, at, calls)
							continue
						}
						r := newReader(t, mastersOf(masters)[0], src)
						got, e := readAll(r, 16)
						// A chunk is opened when the byte behind it has come.
						whole := 16 * max(0, (at-bodyAt(masters)-1)/32)
						if got != text[:whole] || e != api.ErrSource {
							t.Errorf("%s: %d bytes, %d, want %d", what, len(got), e, whole)
						}
						wantSource(t, what, src, at, calls)
						wantKept(t, what, r, src, api.ErrSource)
					}
				}
			}
		}
	}
}

// A source that gives all that it is asked for fails at each of its calls.
func TestSourceThatFailsAtEachCall(t *testing.T) {
	text := pattern(70, 11)
	file := partsOf(t, 1, text).file()
	// 134 for the header, one for the draw, one for each of four chunks, two for the last one.
	for call := range 141 {
		what := fmt.Sprintf("call %d fails", call)
		src := ground.SourceOf(file, append(openPlan(call), -1, all, all, all, all, all, all, all))
		if call < 135 {
			wantNoReader(t, what, mastersOf(1)[0], src, api.ErrSource)
			wantSource(t, what, src, min(call, 134), call+1)
			continue
		}
		r := newReader(t, mastersOf(1)[0], src)
		got, e := readAll(r, 7)
		if got != text[:16*min(call-135, 4)] || e != api.ErrSource {
			t.Errorf("%s: %d bytes, %d", what, len(got), e)
		}
		if src.Calls() != call+1 {
			t.Errorf("%s: %d calls", what, src.Calls())
		}
		wantKept(t, what, r, src, api.ErrSource)
	}
}

// What was opened is told, though the source would fail at the next call.
func TestTextAheadOfAFailure(t *testing.T) {
	text := pattern(40, 11)
	src := ground.SourceOf(partsOf(t, 1, text).file(), append(openPlan(136), -1))
	r := newReader(t, mastersOf(1)[0], src)
	for i := range 16 {
		wantRead(t, r, 1, text[i:i+1], api.OK)
		wantSource(t, "ahead of the failure", src, 183, 136)
	}
	wantRead(t, r, 0, "", api.OK)
	wantRead(t, r, -1, "", api.ErrArg)
	wantSource(t, "ahead of the failure", src, 183, 136)
	wantRead(t, r, 1, "", api.ErrSource)
	wantSource(t, "behind the failure", src, 183, 137)
	wantKept(t, "a failure", r, src, api.ErrSource)
}

func TestFileCutAtEveryPlace(t *testing.T) {
	for masters := 1; masters <= 3; masters++ {
		master := mastersOf(masters)[masters/2]
		for _, size := range edges {
			text := pattern(size, 11)
			file := partsOf(t, masters, text).file()
			for at := range len(file) {
				what := fmt.Sprintf("%d bytes for %d, cut at %d", size, masters, at)
				rest := at - bodyAt(masters)
				if rest < 0 {
					want := api.ErrHead
					if at >= bodyAt(masters)-16 {
						want = api.ErrCut
					}
					wantNothing(t, what, master, file[:at], want)
					continue
				}
				want := api.ErrChunk
				if rest%32 == 0 {
					want = api.ErrCut
				}
				wantText(t, what, master, file[:at], text[:16*max(0, (rest-1)/32)], want)
				wantNoAt(t, what, master, file[:at], want)
			}
			wantText(t, "uncut", master, file, text, api.ErrEnd)
		}
	}
}

// A source that has told its end is not asked again: it ends in the header, in the draw, or behind it.
func TestSourceThatEndsEarly(t *testing.T) {
	file := partsOf(t, 1, "text").file()
	for at := range 150 {
		src := ground.SourceOf(file[:at], openPlan(300))
		want := api.ErrHead
		calls := at + 1
		if at >= 134 {
			want = api.ErrCut
			calls = 135
			if at > 134 {
				calls++
			}
		}
		wantNoReader(t, fmt.Sprintf("cut at %d", at), mastersOf(1)[0], src, want)
		wantSource(t, fmt.Sprintf("cut at %d", at), src, at, calls)
	}
	src := ground.SourceOf(file[:150], openPlan(300))
	r := newReader(t, mastersOf(1)[0], src)
	wantRead(t, r, 1, "", api.ErrCut)
	wantSource(t, "no chunk", src, 150, 136)
	wantKept(t, "no chunk", r, src, api.ErrCut)
}

func changed(s string, at int, by byte) string {
	b := []byte(s)
	b[at] ^= by
	return string(b)
}

func TestByteChangedAtEveryPlace(t *testing.T) {
	for masters := 1; masters <= 3; masters++ {
		for _, size := range []int{0, 16, 33} {
			text := pattern(size, 11)
			p := partsOf(t, masters, text)
			file := p.file()
			last := len(file) - len(p.chunks[len(p.chunks)-1])
			for at := range len(file) {
				for _, by := range []byte{1, 0x10, 0x80} {
					other := changed(file, at, by)
					for i, master := range mastersOf(masters) {
						what := fmt.Sprintf("%d bytes, master %d of %d, byte %d changed by %d", size, i, masters, at, by)
						rest := at - bodyAt(masters)
						if rest >= -16 {
							ahead := text[:16*max(0, rest/32)]
							wantText(t, what, master, other, ahead, api.ErrChunk)
							if rest < 0 || at >= last {
								wantNoAt(t, what, master, other, api.ErrChunk)
							} else {
								wantReadAt(t, what, newAt(t, master, other), math.MaxInt, 0, ahead, api.ErrChunk)
							}
							continue
						}
						want := api.ErrMac
						if at >= 11+75*i && at < 11+75*(i+1) {
							want = api.ErrKey
						}
						h, e := head.Parse(other[:bodyAt(masters)-16])
						if e != api.OK || len(h.Salts) != masters {
							want = api.ErrHead
						}
						wantNothing(t, what, master, other, want)
					}
				}
			}
		}
	}
}

func TestSomethingBehindTheFile(t *testing.T) {
	for _, size := range append([]int{48, 40}, edges...) {
		text := pattern(size, 11)
		p := partsOf(t, 1, text)
		for n := 1; n <= 70; n++ {
			for _, more := range []string{zeros(n), pattern(n, 3), p.file()[:n], p.chunks[len(p.chunks)-1], p.chunks[0], p.file()} {
				what := fmt.Sprintf("%d bytes, and %d behind the file", size, len(more))
				want := api.ErrChunk
				// A last chunk that is full is met whole, with something behind it.
				if size > 0 && size%16 == 0 {
					want = api.ErrTail
				}
				wantText(t, what, mastersOf(1)[0], p.file()+more, text[:16*(len(p.chunks)-1)], want)
				wantNoAt(t, what, mastersOf(1)[0], p.file()+more, api.ErrChunk)
			}
		}
	}
}

func TestHeadersThatAreNone(t *testing.T) {
	p := partsOf(t, 1, "text")
	three := partsOf(t, 3, "text").header
	lines := strings.SplitAfter(three, "\n")
	four := lines[0] + lines[1] + lines[2] + lines[3] + lines[1] + lines[4]
	for _, c := range []struct {
		what, text string
		place      int
	}{
		{"nothing", "", 0},
		{"a letter", "t", 1},
		{"a line feed", "\n", 1},
		{"the first line", "tiny-box/1\n", 11},
		{"another first line", "tiny-box/2" + p.file()[10:], 134},
		{"the mark at once", "---\n" + p.file(), 4},
		{"a marked line at once", "--- " + strings.Repeat("A", 43) + "\n" + p.file(), 48},
		{"the mark behind the first line", "tiny-box/1\n---\n" + p.file(), 15},
		{"a longer mark", "tiny-box/1\n----\n" + p.file(), 16},
		{"a marked line of other bytes", "tiny-box/1\n---\x00\xff\r\n" + p.file(), 18},
		{"a mark that is no line's beginning", "tiny-box/1 ---\n ---\n---\n" + p.file(), 24},
		{"two strokes, then the mark", "--\n-\n--x-\n\n---\n" + p.file(), 15},
		{"carriage returns", strings.ReplaceAll(p.header, "\n", "\r\n") + p.file(), 137},
		{"carriage returns alone", strings.ReplaceAll(p.header, "\n", "\r") + zeros(300), 284},
		{"no wrap", "tiny-box/1\n" + p.header[86:] + p.file(), 59},
		{"four wraps", four + p.file(), 284},
		{"283 bytes", zeros(283), 283},
		{"284 bytes", zeros(284), 284},
		{"285 bytes", zeros(285), 284},
		{"1000 bytes", zeros(1000), 284},
		{"283 bytes with an end behind them", zeros(279) + "\n---\n" + p.file(), 284},
		{"284 bytes with an end behind them", zeros(280) + "\n---\n" + p.file(), 284},
		{"a mark without an end", zeros(279) + "\n---", 283},
		{"line feeds", strings.Repeat("\n", 500), 284},
		{"strokes", strings.Repeat("-", 500), 284},
		{"a long last line", "tiny-box/1\n---" + strings.Repeat(" ", 269) + "\n" + p.file(), 284},
		{"a line more", "tiny-box/1\n" + p.file(), 145},
		{"a byte more ahead", "x" + p.file(), 135},
		{"a blank behind the MAC", p.header[:133] + " \n" + p.file(), 135},
		{"no line feed", p.header[:133], 133},
	} {
		src := ground.SourceOf(c.text, openPlan(2000))
		wantNoReader(t, c.what, mastersOf(1)[0], src, api.ErrHead)
		calls := c.place
		// The end is told if nothing else has stopped the asking.
		if c.place == len(c.text) && c.place < 284 {
			calls++
		}
		wantSource(t, c.what, src, c.place, calls)
		wantNothing(t, c.what, mastersOf(1)[0], c.text, api.ErrHead)
	}
}

// A header of three masters has just 284 bytes: its end is not passed over, and not waited for.
func TestGreatestHeader(t *testing.T) {
	p := partsOf(t, 3, "text")
	src := ground.SourceOf(p.file(), openPlan(400))
	if len(p.header) != 284 || api.MaxHead != 284 {
		t.Errorf("it has %d bytes", len(p.header))
	}
	r := newReader(t, mastersOf(3)[2], src)
	wantSource(t, "begun", src, 300, 285)
	wantRead(t, r, 9, "text", api.OK)
}

// wantStopped tries a header that is one, but does not let in: the source has come to its end and no further.
func wantStopped(t *testing.T, what string, master string, header string, want api.Errno) {
	t.Helper()
	for _, rest := range []string{"", "x", zeros(300)} {
		for _, next := range []int{all, 0, -1} {
			src := ground.SourceOf(header+rest, append(openPlan(len(header)), next, all, all))
			wantNoReader(t, what, master, src, want)
			wantSource(t, what, src, len(header), len(header))
		}
		wantNothing(t, what, master, header+rest, want)
	}
}

func printed(t *testing.T, h api.Head) string {
	t.Helper()
	text, e := head.Print(h)
	if e != api.OK {
		t.Fatalf("Print: %d", e)
	}
	return text
}

func TestMastersThatOpenNoBody(t *testing.T) {
	for masters := 1; masters <= 3; masters++ {
		header := partsOf(t, masters, "").header
		for _, master := range []string{pattern(32, 9), zeros(32), strings.Repeat("\xff", 32), changed(mastersOf(1)[0], 31, 0x80), changed(mastersOf(1)[0], 0, 1)} {
			wantStopped(t, fmt.Sprintf("another master than %d", masters), master, header, api.ErrKey)
		}
	}
	// Each body is opened with the key of its own salt, not with that of another.
	h, e := head.Parse(partsOf(t, 2, "").header)
	if e != api.OK {
		t.Fatalf("Parse: %d", e)
	}
	slices.Reverse(h.Salts)
	for _, master := range mastersOf(2) {
		wantStopped(t, "salts that changed places", master, printed(t, h), api.ErrKey)
	}
	slices.Reverse(h.Bodies)
	for _, master := range mastersOf(2) {
		wantStopped(t, "lines that changed places", master, printed(t, h), api.ErrMac)
	}
	// ErrKey comes first, where the MAC is another too.
	h.Mac = zeros(32)
	wantStopped(t, "another master, another MAC", pattern(32, 9), printed(t, h), api.ErrKey)
}

func TestOtherMacs(t *testing.T) {
	for masters := 1; masters <= 3; masters++ {
		header := partsOf(t, masters, "").header
		h, e := head.Parse(header)
		if e != api.OK {
			t.Fatalf("Parse: %d", e)
		}
		fileKey := pattern(16*(masters+2), 7)[16*masters : 16*masters+16]
		key := kdf.Key(fileKey, "", "header")
		end := strings.Index(header, "\n---")
		macs := []string{zeros(32), kdf.HMAC(fileKey, header[:end+4]), kdf.HMAC(key, header[:end]), kdf.HMAC(key, header[:end+1]), kdf.HMAC(key, header[:end+5]), kdf.HMAC(key, header), kdf.HMAC(key, header[11:end+4])}
		for i := range 32 {
			macs = append(macs, changed(h.Mac, i, 1), changed(h.Mac, i, 0x80))
		}
		for i, mac := range macs {
			h.Mac = mac
			for _, master := range mastersOf(masters) {
				wantStopped(t, fmt.Sprintf("%d masters, MAC %d", masters, i), master, printed(t, h), api.ErrMac)
			}
		}
	}
	// A line more, or one less: the MAC is of all of them.
	one, e := head.Parse(partsOf(t, 1, "").header)
	if e != api.OK {
		t.Fatalf("Parse: %d", e)
	}
	three, e := head.Parse(partsOf(t, 3, "").header)
	if e != api.OK {
		t.Fatalf("Parse: %d", e)
	}
	one.Salts = append(one.Salts, pattern(16, 5))
	one.Bodies = append(one.Bodies, pattern(32, 5))
	wantStopped(t, "a line more", mastersOf(1)[0], printed(t, one), api.ErrMac)
	three.Salts = three.Salts[:2]
	three.Bodies = three.Bodies[:2]
	wantStopped(t, "a line less", mastersOf(1)[0], printed(t, three), api.ErrMac)
}

// headerWith makes a header by hand: each line's file key may be another; the MAC is under the key that is given.
func headerWith(t *testing.T, masters []string, fileKeys []string, macKey string) string {
	t.Helper()
	text := "tiny-box/1\n"
	for i, master := range masters {
		salt := pattern(16, 20+i)
		body := sealed(t, kdf.Key(master, salt, "wrap"), zeros(12), fileKeys[i])
		text += "-> wrap " + base64.RawStdEncoding.EncodeToString([]byte(salt)) + " " + base64.RawStdEncoding.EncodeToString([]byte(body)) + "\n"
	}
	mac := kdf.HMAC(kdf.Key(macKey, "", "header"), text+"---")
	return text + "--- " + base64.RawStdEncoding.EncodeToString([]byte(mac)) + "\n"
}

// The first body that opens gives the file's key, though one behind it opens too.
func TestFirstBodyThatOpens(t *testing.T) {
	a := pattern(32, 1)
	b := pattern(32, 2)
	one := pattern(16, 3)
	two := pattern(16, 5)
	draw := pattern(16, 9)
	bodyOf := func(fileKey string) string {
		return draw + sealed(t, kdf.Key(fileKey, draw, "payload"), referenceNonce(0, true), "the text")
	}
	for _, c := range []struct {
		what              string
		masters, fileKeys []string
		first             string
	}{
		{"the first of two", []string{a, a}, []string{one, two}, one},
		{"the second of three", []string{b, a, a}, []string{one, two, one}, two},
		{"the third of three", []string{b, b, a}, []string{one, one, two}, two},
		{"the first of three", []string{a, b, a}, []string{two, one, one}, two},
		{"all the same", []string{a, a, a}, []string{one, one, one}, one},
	} {
		wantText(t, c.what, a, headerWith(t, c.masters, c.fileKeys, c.first)+bodyOf(c.first), "the text", api.ErrEnd)
		other := one
		if c.first == one {
			other = two
		}
		// The MAC must be that of the first key: no other one is tried.
		wantStopped(t, c.what, a, headerWith(t, c.masters, c.fileKeys, other), api.ErrMac)
		wantText(t, c.what+", the payload of the other key", a, headerWith(t, c.masters, c.fileKeys, c.first)+bodyOf(other), "", api.ErrChunk)
	}
}

// forged is a file of chunks that were put together by one who has the key.
type forged struct {
	what string
	body []string
	text string
	want api.Errno
	at   api.Errno
}

func allForged(t *testing.T) []forged {
	t.Helper()
	mid := func(n int, s string) string { return boxOf(t, n, false, s) }
	end := func(n int, s string) string { return boxOf(t, n, true, s) }
	a, b, c := pattern(16, 3), pattern(16, 5), pattern(16, 9)
	other := referenceParts(t, mastersOf(1), pattern(48, 5), a+b+c).chunks
	return []forged{
		{"three", []string{mid(0, a), mid(1, b), end(2, c)}, a + b + c, api.ErrEnd, api.OK},
		{"the first left out", []string{mid(1, b), end(2, c)}, "", api.ErrChunk, api.ErrChunk},
		{"the second left out", []string{mid(0, a), end(2, c)}, a, api.ErrChunk, api.ErrChunk},
		{"the third left out", []string{mid(0, a), mid(1, b)}, a, api.ErrCut, api.ErrCut},
		{"the last alone", []string{end(2, c)}, "", api.ErrChunk, api.ErrChunk},
		{"the first alone", []string{mid(0, a)}, "", api.ErrCut, api.ErrCut},
		{"the first twice", []string{mid(0, a), mid(0, a), mid(1, b), end(2, c)}, a, api.ErrChunk, api.ErrChunk},
		{"the first in the second's place too", []string{mid(0, a), mid(0, a), end(2, c)}, a, api.ErrChunk, api.OK},
		{"the second twice", []string{mid(0, a), mid(1, b), mid(1, b), end(2, c)}, a + b, api.ErrChunk, api.ErrChunk},
		{"the last twice", []string{mid(0, a), mid(1, b), end(2, c), end(2, c)}, a + b, api.ErrTail, api.ErrChunk},
		{"the first two turned", []string{mid(1, b), mid(0, a), end(2, c)}, "", api.ErrChunk, api.OK},
		{"the last two turned", []string{mid(0, a), end(2, c), mid(1, b)}, a, api.ErrChunk, api.ErrChunk},
		{"the last ahead", []string{end(2, c), mid(1, b), mid(0, a)}, "", api.ErrChunk, api.ErrChunk},
		{"the first of another file", []string{other[0], mid(1, b), end(2, c)}, "", api.ErrChunk, api.OK},
		{"the second of another file", []string{mid(0, a), other[1], end(2, c)}, a, api.ErrChunk, api.OK},
		{"the last of another file", []string{mid(0, a), mid(1, b), other[2]}, a + b, api.ErrChunk, api.ErrChunk},
		{"an empty last one behind one", []string{mid(0, a), end(1, "")}, a, api.ErrVoid, api.ErrVoid},
		{"an empty last one behind two", []string{mid(0, a), mid(1, b), end(2, "")}, a + b, api.ErrVoid, api.ErrVoid},
		{"an empty last one alone", []string{end(0, "")}, "", api.ErrEnd, api.OK},
		{"an empty last one alone, of another number", []string{end(1, "")}, "", api.ErrChunk, api.ErrChunk},
		{"an empty last one twice", []string{end(0, ""), end(0, "")}, "", api.ErrChunk, api.ErrChunk},
		{"an empty last one behind one, of another number", []string{mid(0, a), end(0, "")}, a, api.ErrChunk, api.ErrChunk},
		{"a last one sealed as not the last", []string{mid(0, a), mid(1, b), mid(2, c)}, a + b, api.ErrCut, api.ErrCut},
		{"a short last one sealed as not the last", []string{mid(0, a), mid(1, b[:15])}, a, api.ErrCut, api.ErrCut},
		{"an only one sealed as not the last, short", []string{mid(0, "x")}, "", api.ErrCut, api.ErrCut},
		{"an empty one sealed as not the last", []string{mid(0, "")}, "", api.ErrCut, api.ErrCut},
		{"an empty one sealed as not the last, behind one", []string{mid(0, a), mid(1, "")}, a, api.ErrCut, api.ErrCut},
		{"a middle one sealed as the last", []string{mid(0, a), end(1, b), end(2, c)}, a, api.ErrTail, api.OK},
		{"a first one sealed as the last", []string{end(0, a), end(1, b[:3])}, "", api.ErrTail, api.OK},
		{"a first one sealed as the last, and a byte", []string{end(0, a), "x"}, "", api.ErrTail, api.ErrChunk},
		{"a middle one of noughts", []string{mid(0, a), zeros(32), end(2, c)}, a, api.ErrChunk, api.OK},
		{"a last one of noughts", []string{mid(0, a), zeros(32)}, a, api.ErrChunk, api.ErrChunk},
		{"a byte alone", []string{"x"}, "", api.ErrChunk, api.ErrChunk},
		{"15 bytes alone", []string{zeros(15)}, "", api.ErrChunk, api.ErrChunk},
		{"16 bytes alone", []string{zeros(16)}, "", api.ErrChunk, api.ErrChunk},
		{"a byte behind one", []string{mid(0, a), "x"}, a, api.ErrChunk, api.ErrChunk},
		{"a short middle one", []string{mid(0, a), mid(1, b[:15]), end(2, c)}, a, api.ErrChunk, api.ErrChunk},
		{"a long middle one", []string{mid(0, a+"x"), end(1, c)}, "", api.ErrChunk, api.ErrChunk},
		{"a long last one", []string{mid(0, a), end(1, b+"x")}, a, api.ErrChunk, api.ErrChunk},
		{"two in one", []string{end(0, a+b)}, "", api.ErrChunk, api.ErrChunk},
		{"none", nil, "", api.ErrCut, api.ErrCut},
	}
}

func TestForgedChunks(t *testing.T) {
	p := partsOf(t, 1, "")
	for _, c := range allForged(t) {
		file := p.header + p.draw + strings.Join(c.body, "")
		wantText(t, c.what, mastersOf(1)[0], file, c.text, c.want)
		for _, plan := range [][]int{slow(len(file)+1, 0), slow(len(file)+1, 2)} {
			src := ground.SourceOf(file, plan)
			r := newReader(t, mastersOf(1)[0], src)
			got, e := readAll(r, 3)
			if got != c.text || e != c.want {
				t.Errorf("%s, slowly: %x, %d, want %x, %d", c.what, got, e, c.text, c.want)
			}
			wantKept(t, c.what, r, src, c.want)
		}
		if c.at != api.OK {
			wantNoAt(t, c.what, mastersOf(1)[0], file, c.at)
			continue
		}
		newAt(t, mastersOf(1)[0], file)
	}
}

// A source that fails where the chunk is bad too: the failure comes first, since the chunk is not there yet.
func TestFailureAheadOfABadChunk(t *testing.T) {
	p := partsOf(t, 1, "")
	file := p.header + p.draw + zeros(64)
	src := ground.SourceOf(file, append(openPlan(135), 32, -1, all))
	r := newReader(t, mastersOf(1)[0], src)
	wantRead(t, r, 1, "", api.ErrSource)
	wantSource(t, "a failure", src, 182, 137)
	wantKept(t, "a failure", r, src, api.ErrSource)
}

// The numbers of the chunks outgrow one byte at 2^8 chunks, and two at 2^16.
func TestReadManyChunks(t *testing.T) {
	for _, size := range []int{16 * 256, 16*256 + 1, 16*257 + 5, 16 * 65536, 16*65536 + 1, 16*65537 + 3} {
		text := pattern(size, 13)
		file := partsOf(t, 1, text).file()
		got, e := Decrypt(mastersOf(1)[0], file)
		if got != text || e != api.OK {
			t.Errorf("%d bytes: Decrypt: %d bytes, %d", size, len(got), e)
		}
		r := newReader(t, mastersOf(1)[0], ground.SourceOf(file, nil))
		for at := 0; at < size; at += 16 {
			wantRead(t, r, 16, text[at:min(at+16, size)], api.OK)
		}
		wantRead(t, r, 16, "", api.ErrEnd)
	}
}
