package head

import (
	"encoding/base64"
	"math/rand"
	"strings"
	"testing"

	"strongbox/api"
)

func pattern(n int, step int) string {
	b := make([]byte, n)
	for i := range b {
		b[i] = byte(i*step + i/256 + step)
	}
	return string(b)
}

func randomText(r *rand.Rand, n int) string {
	b := make([]byte, n)
	r.Read(b)
	return string(b)
}

func referenceEncode(s string) string {
	return base64.RawStdEncoding.EncodeToString([]byte(s))
}

// referenceDecode is strict: the library's decoder would leave out line feeds.
func referenceDecode(t string) (string, api.Errno) {
	b, err := base64.RawStdEncoding.Strict().DecodeString(t)
	if err != nil || strings.ContainsAny(t, "\r\n") {
		return "", api.ErrForm
	}
	return string(b), api.OK
}

func checkEncode(t *testing.T, s string) {
	t.Helper()
	want := referenceEncode(s)
	got := Encode(s)
	if got != want {
		t.Errorf("Encode(%x) = %q, want %q", s, got, want)
	}
	back, e := Decode(want)
	if e != api.OK || back != s {
		t.Errorf("Decode(%q) = %x, %d, want %x", want, back, e, s)
	}
}

func checkDecode(t *testing.T, s string) {
	t.Helper()
	want, wantError := referenceDecode(s)
	got, e := Decode(s)
	if e != wantError || got != want {
		t.Errorf("Decode(%q) = %x, %d, want %x, %d", s, got, e, want, wantError)
	}
}

// The values of RFC 4648 without their padding, and the document's.
func TestKnownBase64(t *testing.T) {
	for _, c := range [][2]string{
		{"", ""}, {"f", "Zg"}, {"fo", "Zm8"}, {"foo", "Zm9v"}, {"foob", "Zm9vYg"}, {"fooba", "Zm9vYmE"}, {"foobar", "Zm9vYmFy"},
		{"Man", "TWFu"}, {"Ma", "TWE"}, {"M", "TQ"},
		{"\x14\xfb\x9c\x03\xd9\x7e", "FPucA9l+"}, {"\xff\xff\xff", "////"}, {"\x00\x00\x00\x00", "AAAAAA"},
	} {
		got := Encode(c[0])
		if got != c[1] {
			t.Errorf("Encode(%q) = %q, want %q", c[0], got, c[1])
		}
		back, e := Decode(c[1])
		if e != api.OK || back != c[0] {
			t.Errorf("Decode(%q) = %q, %d, want %q", c[1], back, e, c[0])
		}
	}
}

func TestEveryShortText(t *testing.T) {
	checkEncode(t, "")
	for a := range 256 {
		checkEncode(t, string([]byte{byte(a)}))
		for b := range 256 {
			checkEncode(t, string([]byte{byte(a), byte(b)}))
		}
	}
}

func TestEveryByteAtEachPlace(t *testing.T) {
	for n := 1; n <= 6; n++ {
		for place := range n {
			for b := range 256 {
				s := []byte(pattern(n, 77))
				s[place] = byte(b)
				checkEncode(t, string(s))
			}
		}
	}
}

func TestLongerTexts(t *testing.T) {
	r := rand.New(rand.NewSource(1))
	for n := range 400 {
		checkEncode(t, pattern(n, 7))
		checkEncode(t, randomText(r, n))
		checkEncode(t, strings.Repeat("\x00", n))
		checkEncode(t, strings.Repeat("\xff", n))
	}
	checkEncode(t, randomText(r, 100001))
}

func TestEveryShortBase64(t *testing.T) {
	for a := range 256 {
		checkDecode(t, string([]byte{byte(a)}))
		for b := range 256 {
			checkDecode(t, string([]byte{byte(a), byte(b)}))
		}
	}
	some := letters + "=-_ \n\x00\x80\xff"
	for a := range len(some) {
		for b := range len(some) {
			for c := range len(some) {
				checkDecode(t, string([]byte{some[a], some[b], some[c]}))
			}
		}
	}
}

func TestEveryByteAtEachPlaceOfBase64(t *testing.T) {
	for n := range 14 {
		s := referenceEncode(pattern(n, 77))
		for place := range len(s) {
			for b := range 256 {
				checkDecode(t, s[:place]+string([]byte{byte(b)})+s[place+1:])
				checkDecode(t, s[:place]+string([]byte{byte(b)})+s[place:])
			}
			checkDecode(t, s[:place]+s[place+1:])
		}
	}
}

func TestLengthsThatNoTextHas(t *testing.T) {
	for n := range 200 {
		want := api.OK
		if n%4 == 1 {
			want = api.ErrForm
		}
		got, e := Decode(strings.Repeat("A", n))
		if e != want || e != api.OK && got != "" || e == api.OK && got != strings.Repeat("\x00", n*3/4) {
			t.Errorf("%d letters: %x, %d, want %d", n, got, e, want)
		}
	}
}

// Only where the bits behind the last byte are noughts is a text the base64 of something.
func TestOnesBehindTheLastByte(t *testing.T) {
	for n := 1; n <= 40; n++ {
		s := referenceEncode(pattern(n, 5))
		behind := len(s)*6 - n*8
		for v := range 64 {
			other := s[:len(s)-1] + letters[v:v+1]
			want := api.OK
			if v%(1<<behind) != 0 {
				want = api.ErrForm
			}
			got, e := Decode(other)
			if e != want || (got == "") != (e != api.OK) {
				t.Errorf("Decode(%q): %d, want %d", other, e, want)
			}
		}
	}
}

func TestWrongBase64(t *testing.T) {
	for _, s := range []string{
		"TR", "A", "TQ==", "TQ=", "TWE=", "TWFu====", "=", "====", "AA==AA", "T-", "T_", "-_", "TWFu\n", "TWFu\r\n", "\nTWFu", "TW\nFu", "TW Fu", " TWFu", "TWFu ",
		"AAAAA", "/////", "//", "///", "\x00\x00", "AA\x00\x00", "\x80\x80", "ÄÄ", "\xff\xff\xff\xff", "AAAA\xc3\x84", "[[[[", "@@@@", "````", "{{{{", ".,:;",
	} {
		got, e := Decode(s)
		if e != api.ErrForm || got != "" {
			t.Errorf("Decode(%q) = %x, %d, want ErrForm", s, got, e)
		}
	}
}

func TestNoTwoTextsHaveOneBase64(t *testing.T) {
	seen := map[string]string{}
	for n := range 8 {
		for step := range 256 {
			s := pattern(n, step)
			code := Encode(s)
			other, there := seen[code]
			if there && other != s {
				t.Fatalf("%q is the base64 of %x and of %x", code, s, other)
			}
			seen[code] = s
		}
	}
}

func FuzzBase64(f *testing.F) {
	for _, s := range []string{"", "A", "TQ", "TR", "TWE", "TWF", "TWFu", "TQ==", "é\U0010ffff\xff", "\n", letters} {
		f.Add(s)
	}
	f.Fuzz(func(t *testing.T, s string) {
		checkEncode(t, s)
		checkDecode(t, s)
		checkDecode(t, Encode(s)+"A")
	})
}
