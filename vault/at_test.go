package vault

import (
	"fmt"
	"math"
	"math/rand"
	"strings"
	"testing"

	"strongbox/api"
)

func newAt(t *testing.T, master string, file string) *At {
	t.Helper()
	a, e := NewAt(master, file)
	if e != api.OK || a == nil {
		t.Fatalf("NewAt: %d", e)
	}
	return a
}

func wantNoAt(t *testing.T, what string, master string, file string, want api.Errno) {
	t.Helper()
	a, e := NewAt(master, file)
	if e != want || a != nil {
		t.Errorf("%s: NewAt: %d, want %d", what, e, want)
	}
}

func wantReadAt(t *testing.T, what string, a *At, n int, off int, want string, wantErr api.Errno) {
	t.Helper()
	got, e := a.Read(n, off)
	if got != want || e != wantErr {
		t.Errorf("%s: Read(%d, %d): %x, %d, want %x, %d", what, n, off, got, e, want, wantErr)
	}
}

func wantSize(t *testing.T, what string, a *At, want int) {
	t.Helper()
	if a.Size() != want {
		t.Errorf("%s: Size: %d, want %d", what, a.Size(), want)
	}
}

// The document's examples.
func TestKnownPlaces(t *testing.T) {
	text := pattern(17, 11)
	a := newAt(t, mastersOf(1)[0], encrypted(t, mastersOf(1), pattern(48, 7), text))
	wantSize(t, "the example", a, 17)
	wantReadAt(t, "the example", a, 3, 15, text[15:], api.ErrEnd)
	wantReadAt(t, "the example", a, 2, 15, text[15:], api.OK)
	wantReadAt(t, "the example", a, 0, 17, "", api.OK)
	wantReadAt(t, "the example", a, 0, 18, "", api.ErrEnd)
	wantReadAt(t, "the example", a, -1, 0, "", api.ErrArg)
}

// great are numbers whose sums and products are more than an int can be.
var great = []int{1 << 31, 1<<32 - 1, 1 << 32, 1 << 40, 1 << 59, 1 << 60, 1 << 62, math.MaxInt - 17, math.MaxInt - 16, math.MaxInt - 1, math.MaxInt}

func TestEachPlace(t *testing.T) {
	for masters := 1; masters <= 3; masters++ {
		for _, size := range append([]int{48, 50}, edges...) {
			text := pattern(size, 11)
			file := encrypted(t, mastersOf(masters), pattern(16*(masters+2), 7), text)
			for i, master := range mastersOf(masters) {
				what := fmt.Sprintf("%d bytes, master %d of %d", size, i, masters)
				a := newAt(t, master, file)
				wantSize(t, what, a, size)
				for off := range size + 1 {
					for n := range size - off + 1 {
						wantReadAt(t, what, a, n, off, text[off:off+n], api.OK)
					}
					for _, n := range append([]int{size - off + 1, size - off + 2, size - off + 16, size - off + 33}, great...) {
						wantReadAt(t, what, a, n, off, text[off:], api.ErrEnd)
					}
				}
				for _, off := range append([]int{size + 1, size + 2, size + 15, size + 16, size + 40}, great...) {
					for _, n := range append([]int{0, 1, 16, 17}, great...) {
						wantReadAt(t, what, a, n, off, "", api.ErrEnd)
					}
				}
				wantSize(t, what, a, size)
			}
		}
	}
}

func TestPlacesBelowNought(t *testing.T) {
	below := []int{-1, -2, -16, -17, -1 << 31, -1 << 32, -1 << 60, math.MinInt + 1, math.MinInt}
	for _, size := range edges {
		a := newAt(t, mastersOf(1)[0], partsOf(t, 1, pattern(size, 11)).file())
		for _, low := range below {
			for _, other := range append([]int{0, 1, size, size + 1}, append(great, below...)...) {
				wantReadAt(t, "below 0", a, low, other, "", api.ErrArg)
				wantReadAt(t, "below 0", a, other, low, "", api.ErrArg)
			}
		}
		wantReadAt(t, "behind ErrArg", a, size, 0, pattern(size, 11), api.OK)
	}
}

func TestNothingBehindTheDraw(t *testing.T) {
	for masters := 1; masters <= 3; masters++ {
		p := partsOf(t, masters, "text")
		wantNoAt(t, "nothing behind the draw", mastersOf(masters)[0], p.header+p.draw, api.ErrCut)
		// The errors of the header come first.
		wantNoAt(t, "another master", pattern(32, 9), p.header+p.draw, api.ErrKey)
		wantNoAt(t, "a short master", pattern(31, 1), p.header+p.draw, api.ErrLen)
	}
}

// faulty is a file whose chunks, but for the last one, may be bad: m is a middle one, e one sealed as the last, x none at all.
func faulty(t *testing.T, kinds string, last int) (string, string, []api.Errno) {
	t.Helper()
	p := partsOf(t, 1, "")
	text := pattern(16*len(kinds)+last, 11)
	body := p.header + p.draw
	faults := []api.Errno{}
	for i, kind := range kinds {
		piece := text[16*i : 16*i+16]
		switch kind {
		case 'm':
			body += boxOf(t, i, false, piece)
			faults = append(faults, api.OK)
		case 'e':
			body += boxOf(t, i, true, piece)
			faults = append(faults, api.ErrTail)
		default:
			body += changed(boxOf(t, i, false, piece), 5*i+1, 4)
			faults = append(faults, api.ErrChunk)
		}
	}
	return body + boxOf(t, len(kinds), true, text[16*len(kinds):]), text, append(faults, api.OK)
}

// wantedAt reckons byte by byte what At's Read must tell.
func wantedAt(text string, faults []api.Errno, n int, off int) (string, api.Errno) {
	if n < 0 || off < 0 {
		return "", api.ErrArg
	}
	out := []byte{}
	for i := off; i < len(text) && i-off < n; i++ {
		if faults[i/16] != api.OK {
			return string(out), faults[i/16]
		}
		out = append(out, text[i])
	}
	if off > len(text) || n > len(text)-off {
		return string(out), api.ErrEnd
	}
	return string(out), api.OK
}

func TestFaultsAtEachPlace(t *testing.T) {
	kinds := []string{""}
	for i := 0; len(kinds[i]) < 3; i++ {
		kinds = append(kinds, kinds[i]+"m", kinds[i]+"e", kinds[i]+"x")
	}
	for _, kind := range kinds {
		for _, last := range []int{1, 7, 16} {
			file, text, faults := faulty(t, kind, last)
			a := newAt(t, mastersOf(1)[0], file)
			what := fmt.Sprintf("%q and a last one of %d bytes", kind, last)
			wantSize(t, what, a, len(text))
			for off := range len(text) + 3 {
				for _, n := range []int{0, 1, 2, 15, 16, 17, 31, 32, 33, len(text) - off - 1, len(text) - off, len(text) - off + 1, 100, math.MaxInt} {
					want, wantErr := wantedAt(text, faults, n, off)
					wantReadAt(t, what, a, n, off, want, wantErr)
				}
			}
		}
	}
}

// A chunk that does not open ahead of, within and behind what is wanted, told by hand.
func TestFaultAheadWithinBehind(t *testing.T) {
	file, text, _ := faulty(t, "mmxemm", 5)
	a := newAt(t, mastersOf(1)[0], file)
	for range 2 {
		wantReadAt(t, "behind what is wanted", a, 32, 0, text[:32], api.OK)
		wantReadAt(t, "behind what is wanted", a, 12, 20, text[20:32], api.OK)
		wantReadAt(t, "within", a, 33, 0, text[:32], api.ErrChunk)
		wantReadAt(t, "within", a, 13, 20, text[20:32], api.ErrChunk)
		wantReadAt(t, "within", a, math.MaxInt, 7, text[7:32], api.ErrChunk)
		wantReadAt(t, "at its own beginning", a, 1, 32, "", api.ErrChunk)
		wantReadAt(t, "at its own middle", a, 1, 40, "", api.ErrChunk)
		wantReadAt(t, "at its own end, and the next", a, 2, 47, "", api.ErrChunk)
		wantReadAt(t, "one sealed as the last", a, 1, 48, "", api.ErrTail)
		wantReadAt(t, "one sealed as the last", a, 100, 63, "", api.ErrTail)
		wantReadAt(t, "ahead of what is wanted", a, 37, 64, text[64:], api.OK)
		wantReadAt(t, "ahead of what is wanted", a, 38, 64, text[64:], api.ErrEnd)
		wantReadAt(t, "nothing of a bad one", a, 0, 32, "", api.OK)
		wantReadAt(t, "nothing of a bad one", a, 0, 40, "", api.OK)
		wantReadAt(t, "nothing behind the end", a, 0, 102, "", api.ErrEnd)
		wantReadAt(t, "behind the end", a, 1, 101, "", api.ErrEnd)
		wantSize(t, "a faulty file", a, 101)
	}
}

// Each chunk is opened at its own place, and but for the last one as one that is not.
func TestChunksOfOtherPlaces(t *testing.T) {
	p := partsOf(t, 1, "")
	text := pattern(16, 3)
	last := boxOf(t, 2, true, "end")
	for i, body := range []string{boxOf(t, 1, false, text) + boxOf(t, 0, false, text), boxOf(t, 2, false, text) + boxOf(t, 2, false, text), zeros(64), pattern(64, 5)} {
		a := newAt(t, mastersOf(1)[0], p.header+p.draw+body+last)
		what := fmt.Sprintf("body %d", i)
		wantSize(t, what, a, 35)
		wantReadAt(t, what, a, 1, 0, "", api.ErrChunk)
		wantReadAt(t, what, a, 1, 16, "", api.ErrChunk)
		wantReadAt(t, what, a, 3, 32, "end", api.OK)
	}
}

// Each fault of the last chunk, whatever stands ahead of it.
func TestFaultsOfTheLastChunk(t *testing.T) {
	p := partsOf(t, 1, "")
	text := pattern(16, 3)
	for number := range 4 {
		for _, ahead := range []string{boxOf(t, 0, false, text), boxOf(t, 0, true, text), zeros(32)} {
			file := p.header + p.draw + strings.Repeat(ahead, number)
			for n := range 17 {
				box := boxOf(t, number, true, text[:n])
				what := fmt.Sprintf("chunk %d of %d bytes is the last", number, n)
				if n == 0 && number > 0 {
					wantNoAt(t, what, mastersOf(1)[0], file+box, api.ErrVoid)
				} else {
					wantSize(t, what, newAt(t, mastersOf(1)[0], file+box), 16*number+n)
				}
				wantNoAt(t, what+", sealed as not", mastersOf(1)[0], file+boxOf(t, number, false, text[:n]), api.ErrCut)
				wantNoAt(t, what+", of another number", mastersOf(1)[0], file+boxOf(t, number+1, true, text[:n]), api.ErrChunk)
				wantNoAt(t, what+", changed", mastersOf(1)[0], file+changed(box, n, 1), api.ErrChunk)
				wantNoAt(t, what+", its tag changed", mastersOf(1)[0], file+changed(box, n+15, 0x80), api.ErrChunk)
				wantNoAt(t, what+", without a byte", mastersOf(1)[0], file+box[:n+15], api.ErrChunk)
				wantNoAt(t, what+", with a byte more", mastersOf(1)[0], file+box+"x", api.ErrChunk)
			}
		}
	}
}

// The numbers of the chunks outgrow one byte at 2^8 chunks, and two at 2^16.
func TestFarPlaces(t *testing.T) {
	r := rand.New(rand.NewSource(4))
	for _, size := range []int{16 * 257, 16*65537 + 3} {
		text := pattern(size, 13)
		a := newAt(t, mastersOf(1)[0], partsOf(t, 1, text).file())
		wantSize(t, "a long text", a, size)
		wantReadAt(t, "a long text", a, 20, size-20, text[size-20:], api.OK)
		wantReadAt(t, "a long text", a, 21, size-20, text[size-20:], api.ErrEnd)
		for range 500 {
			off := r.Intn(size)
			n := r.Intn(min(100, size-off))
			wantReadAt(t, "a long text", a, n, off, text[off:off+n], api.OK)
		}
		wantReadAt(t, "a long text", a, size, 0, text, api.OK)
	}
}
