package head

import (
	"fmt"
	"math/rand"
	"regexp"
	"slices"
	"strings"
	"testing"

	"strongbox/api"
)

// The texts that Print gives, as a pattern: the last letter of each word has noughts behind the last byte.
var printed = regexp.MustCompile(`\Atiny-box/1\n` +
	`(-> wrap [A-Za-z0-9+/]{21}[AQgw] [A-Za-z0-9+/]{42}[AEIMQUYcgkosw048]\n){1,3}` +
	`--- [A-Za-z0-9+/]{42}[AEIMQUYcgkosw048]\n\z`)

func headOf(n int, step int) api.Head {
	h := api.Head{Mac: pattern(32, step+5)}
	for i := range n {
		h.Salts = append(h.Salts, pattern(16, step+2*i))
		h.Bodies = append(h.Bodies, pattern(32, step+2*i+1))
	}
	return h
}

func randomHead(r *rand.Rand, n int) api.Head {
	h := api.Head{Mac: randomText(r, 32)}
	for range n {
		h.Salts = append(h.Salts, randomText(r, 16))
		h.Bodies = append(h.Bodies, randomText(r, 32))
	}
	return h
}

func copyOf(h api.Head) api.Head {
	return api.Head{Salts: slices.Clone(h.Salts), Bodies: slices.Clone(h.Bodies), Mac: h.Mac}
}

func alike(a api.Head, b api.Head) bool {
	return slices.Equal(a.Salts, b.Salts) && slices.Equal(a.Bodies, b.Bodies) && a.Mac == b.Mac
}

func referencePrint(h api.Head) string {
	out := "tiny-box/1\n"
	for i := range h.Salts {
		out += fmt.Sprintf("-> wrap %s %s\n", referenceEncode(h.Salts[i]), referenceEncode(h.Bodies[i]))
	}
	return out + fmt.Sprintf("--- %s\n", referenceEncode(h.Mac))
}

func printOf(t *testing.T, h api.Head) string {
	t.Helper()
	s, e := Print(h)
	if e != api.OK {
		t.Fatalf("Print: %d", e)
	}
	return s
}

func wantPrintError(t *testing.T, what string, h api.Head, want api.Errno) {
	t.Helper()
	s, e := Print(h)
	if e != want || s != "" {
		t.Errorf("%s: Print: %q, %d, want %d", what, s, e, want)
	}
}

func wantNoHead(t *testing.T, what string, s string) {
	t.Helper()
	h, e := Parse(s)
	if e != api.ErrHead || h.Salts != nil || h.Bodies != nil || h.Mac != "" {
		t.Errorf("%s: Parse(%q): %d, want ErrHead", what, s, e)
	}
}

// checkParse holds Parse against the pattern: it reads just those texts, and each as that of which it is the print.
func checkParse(t *testing.T, what string, s string) {
	t.Helper()
	if !printed.MatchString(s) {
		wantNoHead(t, what, s)
		return
	}
	h, e := Parse(s)
	if e != api.OK || len(h.Salts) != len(h.Bodies) || referencePrint(h) != s {
		t.Errorf("%s: Parse(%q): %d", what, s, e)
	}
}

func TestKnownHeader(t *testing.T) {
	h := api.Head{Salts: []string{pattern(16, 1)}, Bodies: []string{pattern(32, 3)}, Mac: pattern(32, 5)}
	want := "tiny-box/1\n-> wrap AQIDBAUGBwgJCgsMDQ4PEA AwYJDA8SFRgbHiEkJyotMDM2OTw/QkVIS05RVFdaXWA\n--- BQoPFBkeIygtMjc8QUZLUFVaX2RpbnN4fYKHjJGWm6A\n"
	got := printOf(t, h)
	if got != want {
		t.Errorf("%q, want %q", got, want)
	}
	back, e := Parse(want)
	if e != api.OK || !alike(back, h) {
		t.Errorf("Parse: %d %v", e, back)
	}
}

func TestPrintAndParse(t *testing.T) {
	r := rand.New(rand.NewSource(2))
	for n := 1; n <= 3; n++ {
		for range 300 {
			h := randomHead(r, n)
			s := printOf(t, h)
			if s != referencePrint(h) || len(s) != 59+75*n {
				t.Errorf("%d salts: %q", n, s)
			}
			back, e := Parse(s)
			if e != api.OK || !alike(back, h) {
				t.Errorf("%d salts there and back: %d", n, e)
			}
		}
	}
	if len(printOf(t, headOf(3, 1))) != api.MaxHead {
		t.Errorf("the longest header has not %d bytes", api.MaxHead)
	}
}

// Salts and bodies that are the same, or out of order, are a header too.
func TestSameSaltsTwice(t *testing.T) {
	h := api.Head{Salts: []string{pattern(16, 9), pattern(16, 9), pattern(16, 1)}, Bodies: []string{pattern(32, 9), pattern(32, 9), pattern(32, 1)}, Mac: strings.Repeat("\x00", 32)}
	back, e := Parse(printOf(t, h))
	if e != api.OK || !alike(back, h) {
		t.Errorf("%d %v", e, back)
	}
}

func TestWrongCounts(t *testing.T) {
	for salts := range 7 {
		for bodies := range 7 {
			good := headOf(7, 3)
			h := api.Head{Salts: good.Salts[:salts], Bodies: good.Bodies[:bodies], Mac: good.Mac}
			what := fmt.Sprintf("%d salts, %d bodies", salts, bodies)
			if salts == bodies && salts >= 1 && salts <= 3 {
				if printOf(t, h) != referencePrint(h) {
					t.Errorf("%s: another text", what)
				}
				continue
			}
			wantPrintError(t, what, h, api.ErrArg)
			// The counts come ahead of the lengths.
			h.Mac = "short"
			wantPrintError(t, what+", a short MAC", h, api.ErrArg)
			for i := range h.Salts {
				h.Salts[i] = ""
			}
			for i := range h.Bodies {
				h.Bodies[i] = pattern(33, 1)
			}
			wantPrintError(t, what+", wrong lengths", h, api.ErrArg)
		}
	}
	wantPrintError(t, "nothing", api.Head{}, api.ErrArg)
	wantPrintError(t, "nil lists", api.Head{Mac: pattern(32, 1)}, api.ErrArg)
	wantPrintError(t, "a thousand", headOf(1000, 1), api.ErrArg)
}

func TestWrongLengthsInHeads(t *testing.T) {
	for n := 1; n <= 3; n++ {
		for length := range 100 {
			for i := range n {
				if length != 16 {
					h := headOf(n, 3)
					h.Salts[i] = pattern(length, 1)
					wantPrintError(t, fmt.Sprintf("salt %d of %d has %d bytes", i, n, length), h, api.ErrLen)
				}
				if length != 32 {
					h := headOf(n, 3)
					h.Bodies[i] = pattern(length, 1)
					wantPrintError(t, fmt.Sprintf("body %d of %d has %d bytes", i, n, length), h, api.ErrLen)
				}
			}
			if length != 32 {
				h := headOf(n, 3)
				h.Mac = pattern(length, 1)
				wantPrintError(t, fmt.Sprintf("the MAC has %d bytes", length), h, api.ErrLen)
			}
		}
	}
}

func TestByteChangedMissingOrPutIn(t *testing.T) {
	for n := 1; n <= 3; n++ {
		s := printOf(t, headOf(n, 7))
		for place := 0; place <= len(s); place++ {
			what := fmt.Sprintf("%d salts, at %d", n, place)
			for b := range 256 {
				one := string([]byte{byte(b)})
				wantNoHead(t, what+", put in", s[:place]+one+s[place:])
				if place < len(s) {
					checkParse(t, what+", changed", s[:place]+one+s[place+1:])
				}
			}
			if place < len(s) {
				wantNoHead(t, what+", missing", s[:place]+s[place+1:])
				wantNoHead(t, what+", the rest missing", s[:place])
			}
		}
	}
}

// Where no letter of base64 stands, no other byte will do; where one stands, no byte that is none.
func TestChangedBytesThatNeverFit(t *testing.T) {
	for n := 1; n <= 3; n++ {
		s := printOf(t, headOf(n, 7))
		for place := range len(s) {
			for _, b := range []byte{0, '\t', '\n', '\r', ' ', '-', '=', '_', '.', 0x7f, 0x80, 0xff, s[place] ^ 0x80} {
				if b != s[place] {
					wantNoHead(t, "changed", s[:place]+string([]byte{b})+s[place+1:])
				}
			}
		}
	}
}

// A byte taken out at one place and put in at another leaves the length as it was.
func TestByteMoved(t *testing.T) {
	r := rand.New(rand.NewSource(3))
	for n := 1; n <= 3; n++ {
		s := printOf(t, headOf(n, 11))
		for from := range len(s) {
			rest := s[:from] + s[from+1:]
			for _, to := range []int{from - 2, from - 1, from + 1, from + 2, r.Intn(len(s)), r.Intn(len(s)), r.Intn(len(s))} {
				if to >= 0 && to <= len(rest) {
					checkParse(t, "moved", rest[:to]+s[from:from+1]+rest[to:])
					checkParse(t, "a letter for it", rest[:to]+"A"+rest[to:])
					checkParse(t, "a blank for it", rest[:to]+" "+rest[to:])
					checkParse(t, "a line feed for it", rest[:to]+"\n"+rest[to:])
				}
			}
		}
	}
}

func TestTextsThatAreNoHeader(t *testing.T) {
	first := "tiny-box/1\n"
	wrap := "-> wrap AAAAAAAAAAAAAAAAAAAAAA AAAAAAAAAAAAAAAAAAAAAAAAAAAAAAAAAAAAAAAAAAA\n"
	last := "--- AAAAAAAAAAAAAAAAAAAAAAAAAAAAAAAAAAAAAAAAAAA\n"
	for n := range 8 {
		s := first + strings.Repeat(wrap, n) + last
		if n >= 1 && n <= 3 {
			h, e := Parse(s)
			if e != api.OK || len(h.Salts) != n || len(h.Bodies) != n {
				t.Errorf("%d salts: %d", n, e)
			}
			continue
		}
		wantNoHead(t, fmt.Sprintf("%d salts", n), s)
	}
	good := first + wrap + last
	for _, s := range []string{
		"", "\n", "tiny-box/1", first, first + wrap, wrap + last, last, first + last + wrap, wrap + first + last, first + wrap + last + last, first + first + wrap + last,
		good + "\n", good + "A", good + " ", good + "\x00", good + good, " " + good, "\n" + good, "\ufeff" + good, good[:len(good)-1], good[:len(good)-1] + "\r\n", good[:len(good)-1] + "\r", good[:len(good)-1] + " ",
		strings.ReplaceAll(good, "\n", "\r\n"), strings.ReplaceAll(good, " ", "  "), strings.ReplaceAll(good, " ", "\t"), strings.ToUpper(good), strings.ToLower(good),
		strings.Replace(good, " A", "  A", 1), strings.Replace(good, "wrap ", "wrap  ", 1), strings.Replace(good, "--- ", "---  ", 1), strings.Replace(good, "A\n", "A \n", 1),
		strings.Replace(good, "--- ", "---", 1), strings.Replace(good, "---", "----", 1), strings.Replace(good, "---", "--", 1), strings.Replace(good, "->", "-->", 1),
		strings.Replace(good, "/1", "/2", 1), strings.Replace(good, "/1", "/10", 1), strings.Replace(good, "tiny", "Tiny", 1), strings.Replace(good, "wrap", "warp", 1),
		// Words of other lengths in a header of the right one.
		first + "-> wrap " + strings.Repeat("A", 21) + " " + strings.Repeat("A", 44) + "\n" + last,
		first + "-> wrap " + strings.Repeat("A", 23) + " " + strings.Repeat("A", 42) + "\n" + last,
		first + "-> wrap " + strings.Repeat("A", 43) + " " + strings.Repeat("A", 22) + "\n" + last,
		first + "-> wrap " + strings.Repeat("A", 22) + " " + strings.Repeat("A", 42) + "\n" + "--- " + strings.Repeat("A", 44) + "\n",
		first + "-> wrap " + strings.Repeat("A", 66) + "\n" + last,
		first + "-> wrap " + strings.Repeat("A", 22) + " " + strings.Repeat("A", 40) + " AA\n" + last,
		// Padding, and ones behind the last byte.
		strings.Replace(good, "AA AA", "AA== AA", 1), strings.Replace(good, "AAA\n", "AAA=\n", 1), strings.Replace(good, "A A", "B A", 1), strings.Replace(good, "A A", "/ A", 1),
		strings.Replace(good, "A\n-", "B\n-", 1), first + wrap + strings.Replace(last, "A\n", "B\n", 1), first + wrap + strings.Replace(last, "A\n", "/\n", 1),
		// A last line among the others, or one of the others in its place.
		first + wrap + last + wrap + last, first + wrap + wrap, strings.Repeat("\n", len(good)), strings.Repeat("A", len(good)), strings.Repeat("\x00", len(good)), strings.Repeat("\xff", 209), strings.Repeat("-", 284),
	} {
		if printed.MatchString(s) {
			t.Fatalf("%q is a header", s)
		}
		wantNoHead(t, "no header", s)
	}
}

func TestEveryLength(t *testing.T) {
	good := printOf(t, headOf(3, 7))
	for n := range 600 {
		wantNoHead(t, "letters", strings.Repeat("A", n))
		if n < len(good) {
			wantNoHead(t, "the beginning", good[:n])
			wantNoHead(t, "the end", good[len(good)-n:])
		}
	}
}

// roomy gives list with spare room behind it, and the whole of its memory.
func roomy(list []string) ([]string, []string) {
	whole := append(slices.Clone(list), "spare", "room", "", "")
	return whole[:len(list)], whole
}

func TestPrintLeavesItsListsAlone(t *testing.T) {
	for n := range 5 {
		h := headOf(n, 3)
		salts, allSalts := roomy(h.Salts)
		bodies, allBodies := roomy(h.Bodies)
		salts0 := slices.Clone(allSalts)
		bodies0 := slices.Clone(allBodies)
		first, e := Print(api.Head{Salts: salts, Bodies: bodies, Mac: h.Mac})
		if !slices.Equal(allSalts, salts0) || !slices.Equal(allBodies, bodies0) {
			t.Errorf("%d salts: a list was written into", n)
		}
		overwrite(allSalts)
		overwrite(allBodies)
		again, f := Print(h)
		if again != first || e != f {
			t.Errorf("%d salts: another answer", n)
		}
	}
}

func overwrite(list []string) {
	for i := range list {
		list[i] = "mine"
	}
}

func TestListsOfParseAreTheCallers(t *testing.T) {
	for n := 1; n <= 3; n++ {
		h := headOf(n, 3)
		s := printOf(t, h)
		one, _ := Parse(s)
		two, _ := Parse(s)
		three, _ := Parse(s)
		bodies := slices.Clone(one.Bodies)
		// Spare room of one list is not the other's memory either.
		overwrite(one.Salts[:cap(one.Salts)])
		if !slices.Equal(one.Bodies, bodies) {
			t.Errorf("%d salts: the bodies share memory with the salts", n)
		}
		salts := slices.Clone(two.Salts)
		overwrite(two.Bodies[:cap(two.Bodies)])
		if !slices.Equal(two.Salts, salts) {
			t.Errorf("%d salts: the salts share memory with the bodies", n)
		}
		four, e := Parse(s)
		if e != api.OK || !alike(three, h) || !alike(four, h) {
			t.Errorf("%d salts: another answer was changed", n)
		}
	}
}

// One header after another: none leaves anything behind.
func TestHeadersSideBySide(t *testing.T) {
	r := rand.New(rand.NewSource(4))
	var heads []api.Head
	var texts []string
	for range 50 {
		h := randomHead(r, 1+r.Intn(3))
		heads = append(heads, copyOf(h))
		texts = append(texts, printOf(t, h))
	}
	for range 1000 {
		i := r.Intn(len(heads))
		h, e := Parse(texts[i])
		if e != api.OK || !alike(h, heads[i]) || printOf(t, heads[i]) != texts[i] {
			t.Fatalf("header %d: %d", i, e)
		}
		wantNoHead(t, "cut", texts[i][:r.Intn(len(texts[i]))])
	}
}

func FuzzParse(f *testing.F) {
	f.Add("")
	for n := 1; n <= 4; n++ {
		s := referencePrint(headOf(n, 7))
		f.Add(s)
		f.Add(s[:len(s)-1])
		f.Add(s + "\n")
		f.Add(strings.Replace(s, " ", "  ", 1))
	}
	f.Fuzz(func(t *testing.T, s string) {
		checkParse(t, "any text", s)
	})
}

func FuzzPrint(f *testing.F) {
	f.Add("", "", "", 0, 0)
	f.Add(pattern(16, 1), pattern(32, 1), pattern(32, 1), 1, 1)
	f.Add(pattern(16, 1), pattern(32, 1), pattern(32, 1), 3, 2)
	f.Add(pattern(16, 1), pattern(32, 1), pattern(31, 1), 4, 4)
	f.Fuzz(func(t *testing.T, salt string, body string, mac string, salts int, bodies int) {
		h := api.Head{Mac: mac}
		for range min(max(salts, 0), 6) {
			h.Salts = append(h.Salts, salt)
		}
		for range min(max(bodies, 0), 6) {
			h.Bodies = append(h.Bodies, body)
		}
		n := len(h.Salts)
		if n < 1 || n > 3 || len(h.Bodies) != n {
			wantPrintError(t, "counts", h, api.ErrArg)
			return
		}
		if len(salt) != 16 || len(body) != 32 || len(mac) != 32 {
			wantPrintError(t, "lengths", h, api.ErrLen)
			return
		}
		checkParse(t, "printed", printOf(t, h))
	})
}
