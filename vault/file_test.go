package vault

import (
	"encoding/base64"
	"encoding/hex"
	"fmt"
	"math"
	"math/rand"
	"slices"
	"strings"
	"testing"

	"strongbox/aead"
	"strongbox/api"
	"strongbox/ground"
	"strongbox/head"
	"strongbox/kdf"
)

func pattern(n int, step int) string {
	b := make([]byte, n)
	for i := range b {
		b[i] = byte(i*step + i/256 + step)
	}
	return string(b)
}

func bytesOf(t *testing.T, s string) string {
	t.Helper()
	b, err := hex.DecodeString(s)
	if err != nil {
		t.Fatal(err)
	}
	return string(b)
}

func randomText(r *rand.Rand, n int) string {
	b := make([]byte, n)
	r.Read(b)
	return string(b)
}

func zeros(n int) string { return strings.Repeat("\x00", n) }

func mastersOf(n int) []string {
	list := []string{}
	for i := range n {
		list = append(list, pattern(32, i+1))
	}
	return list
}

func sealed(t *testing.T, key string, nonce string, text string) string {
	t.Helper()
	box, e := aead.Seal(key, nonce, "", text)
	if e != api.OK {
		t.Fatalf("Seal: %d", e)
	}
	return box
}

// referenceHeader lays a header together, line by line, with the library's base64.
func referenceHeader(t *testing.T, masters []string, salts []string, fileKey string) string {
	t.Helper()
	text := "tiny-box/1\n"
	for i, master := range masters {
		body := sealed(t, kdf.Key(master, salts[i], "wrap"), zeros(12), fileKey)
		text += "-> wrap " + base64.RawStdEncoding.EncodeToString([]byte(salts[i])) + " " + base64.RawStdEncoding.EncodeToString([]byte(body)) + "\n"
	}
	text += "---"
	mac := kdf.HMAC(kdf.Key(fileKey, "", "header"), text)
	return text + " " + base64.RawStdEncoding.EncodeToString([]byte(mac)) + "\n"
}

func referenceNonce(number int, last bool) string {
	end := "00"
	if last {
		end = "01"
	}
	b, _ := hex.DecodeString(fmt.Sprintf("%022x", number) + end)
	return string(b)
}

// parts are what a file is made of, and the texts that it was made of.
type parts struct {
	header, draw, key string
	chunks            []string
}

// referenceParts makes the file of P10 from the draws, which are given as one text.
func referenceParts(t *testing.T, masters []string, draws string, text string) parts {
	t.Helper()
	n := len(masters)
	salts := []string{}
	for i := range n {
		salts = append(salts, draws[16*i:16*i+16])
	}
	fileKey := draws[16*n : 16*n+16]
	p := parts{draw: draws[16*n+16 : 16*n+32]}
	p.header = referenceHeader(t, masters, salts, fileKey)
	p.key = kdf.Key(fileKey, p.draw, "payload")
	count := max(1, (len(text)+15)/16)
	for i := range count {
		piece := text[16*i : min(16*i+16, len(text))]
		p.chunks = append(p.chunks, sealed(t, p.key, referenceNonce(i, i == count-1), piece))
	}
	return p
}

func (p parts) file() string {
	return p.header + p.draw + strings.Join(p.chunks, "")
}

func encrypted(t *testing.T, masters []string, draws string, text string) string {
	t.Helper()
	file, e := Encrypt(masters, ground.SpringOf(draws), text)
	if e != api.OK {
		t.Fatalf("Encrypt of %d bytes for %d: %d", len(text), len(masters), e)
	}
	return file
}

// cutParts cuts a file by the lengths that its parts must have.
func cutParts(file string, masters int) parts {
	at := 59 + 75*masters
	p := parts{header: file[:at], draw: file[at : at+16]}
	rest := file[at+16:]
	for len(rest) > 32 {
		p.chunks = append(p.chunks, rest[:32])
		rest = rest[32:]
	}
	p.chunks = append(p.chunks, rest)
	return p
}

// The document's file, byte for byte.
func TestKnownFile(t *testing.T) {
	want := "tiny-box/1\n" +
		"-> wrap Bw4VHCMqMTg/Rk1UW2JpcA RqVZaIWfdJvsbi6mg63bES6Yjm+QZ9MO/n4ULnTVNvs\n" +
		"--- yGMx4QgecwYfvd/rGCjnuU5MnyaKCB0EbNP5SdRgr6A\n" +
		bytesOf(t, "e7eef5fc030a11181f262d343b424950") +
		bytesOf(t, "96a9b93d9d2610864b7fa97a6b1ade93eeab3d83ac21a91ab46a0286af0a6a62") +
		bytesOf(t, "82436dbef82f5bb54f543f7be6253d7f23")
	got := encrypted(t, mastersOf(1), pattern(48, 7), pattern(17, 11))
	if got != want || len(got) != 199 {
		t.Errorf("%q, want %q", got, want)
	}
	if referenceParts(t, mastersOf(1), pattern(48, 7), pattern(17, 11)).file() != want {
		t.Errorf("the reference gives another file")
	}
}

func TestPartsOfFiles(t *testing.T) {
	r := rand.New(rand.NewSource(1))
	for masters := 1; masters <= 3; masters++ {
		for _, n := range []int{0, 1, 15, 16, 17, 32, 33, 47, 48, 49, 100, 255, 256, 257} {
			keys := []string{}
			for range masters {
				keys = append(keys, randomText(r, 32))
			}
			draws := randomText(r, 16*(masters+2))
			text := randomText(r, n)
			what := fmt.Sprintf("%d masters, %d bytes", masters, n)
			want := referenceParts(t, keys, draws, text)
			file := encrypted(t, keys, draws, text)
			if len(file) != len(want.file()) {
				t.Errorf("%s: %d bytes, want %d", what, len(file), len(want.file()))
				continue
			}
			got := cutParts(file, masters)
			if got.header != want.header {
				t.Errorf("%s: the header is %q, want %q", what, got.header, want.header)
			}
			if got.draw != want.draw {
				t.Errorf("%s: the draw is %x, want %x", what, got.draw, want.draw)
			}
			if !slices.Equal(got.chunks, want.chunks) {
				t.Errorf("%s: the chunks are %x, want %x", what, got.chunks, want.chunks)
			}
		}
	}
}

// What stands in the header is what P10 says of it, read back by Parse and opened by Unseal.
func TestHeaderOfFileOpens(t *testing.T) {
	for masters := 1; masters <= 3; masters++ {
		keys := mastersOf(masters)
		draws := pattern(16*(masters+2), 7)
		fileKey := draws[16*masters : 16*masters+16]
		text := cutParts(encrypted(t, keys, draws, "text"), masters).header
		h, e := head.Parse(text)
		if e != api.OK || len(h.Salts) != masters {
			t.Fatalf("%d masters: Parse: %d", masters, e)
		}
		for i, master := range keys {
			if h.Salts[i] != draws[16*i:16*i+16] {
				t.Errorf("%d masters: salt %d is %x", masters, i, h.Salts[i])
			}
			got, e := aead.Unseal(kdf.Key(master, h.Salts[i], "wrap"), zeros(12), "", h.Bodies[i])
			if e != api.OK || got != fileKey {
				t.Errorf("%d masters: body %d: %d", masters, i, e)
			}
		}
		upTo := strings.Index(text, "\n---") + 4
		if h.Mac != kdf.HMAC(kdf.Key(fileKey, "", "header"), text[:upTo]) {
			t.Errorf("%d masters: another MAC", masters)
		}
	}
}

func TestOneMasterTwice(t *testing.T) {
	keys := []string{pattern(32, 9), pattern(32, 9), pattern(32, 9)}
	draws := pattern(80, 5)
	if encrypted(t, keys, draws, "text") != referenceParts(t, keys, draws, "text").file() {
		t.Errorf("another file")
	}
	// The same draws again and again are draws too.
	if encrypted(t, keys, zeros(80), "text") != referenceParts(t, keys, zeros(80), "text").file() {
		t.Errorf("another file, of draws of noughts")
	}
}

// The numbers of the chunks outgrow one byte at 2^8 chunks, and two at 2^16.
func TestNumbersOfMoreThanTwoBytes(t *testing.T) {
	for _, n := range []int{16*255 + 1, 16 * 256, 16*256 + 1, 16*257 + 5, 16 * 65536, 16*65536 + 1, 16*65537 + 3} {
		text := pattern(n, 13)
		if encrypted(t, mastersOf(1), pattern(48, 7), text) != referenceParts(t, mastersOf(1), pattern(48, 7), text).file() {
			t.Errorf("%d bytes: another file", n)
		}
	}
}

func TestNonces(t *testing.T) {
	for _, number := range []int{0, 1, 2, 254, 255, 256, 257, 65535, 65536, 1<<24 - 1, 1 << 24, 1<<32 - 1, 1 << 32, 1<<40 + 3, 1 << 48, 1 << 56, 1<<62 + 1, math.MaxInt} {
		for _, last := range []bool{false, true} {
			got := nonceOf(uint64(number), last)
			if got != referenceNonce(number, last) {
				t.Errorf("the nonce of %d: %x, want %x", number, got, referenceNonce(number, last))
			}
		}
	}
	if nonceOf(math.MaxUint64, true) != bytesOf(t, "000000ffffffffffffffff01") {
		t.Errorf("the nonce of the greatest number: %x", nonceOf(math.MaxUint64, true))
	}
}

// faults is a call with any of the errors of NewWriter in it, and the one that comes first.
type faults struct {
	what    string
	masters []string
	draws   int
	want    api.Errno
	left    int
}

func allFaults() []faults {
	list := []faults{}
	for _, draws := range []int{0, 1, 15, 16, 31, 47, 48, 63, 64, 79, 80, 96, 200} {
		for n := range 7 {
			for bad := -1; bad < n; bad++ {
				for _, length := range []int{0, 1, 16, 31, 33, 64, 100} {
					c := faults{fmt.Sprintf("%d masters, number %d of %d bytes, %d bytes of draws", n, bad, length, draws), mastersOf(n), draws, api.OK, draws}
					need := 16 * (n + 2)
					if bad >= 0 {
						c.masters[bad] = pattern(length, 1)
					}
					switch {
					case n < 1 || n > 3:
						c.want = api.ErrArg
					case bad >= 0:
						c.want = api.ErrLen
					case draws < need:
						c.want = api.ErrEntropy
						c.left = draws % 16
					default:
						c.left = draws - need
					}
					list = append(list, c)
				}
			}
		}
	}
	list = append(list, faults{"a nil list", nil, 100, api.ErrArg, 100})
	list = append(list, faults{"a list of nothings", make([]string, 3), 100, api.ErrLen, 100})
	list = append(list, faults{"a thousand masters", mastersOf(1000), 100000, api.ErrArg, 100000})
	return list
}

func TestEncryptErrors(t *testing.T) {
	for _, c := range allFaults() {
		for _, text := range []string{"", "x", pattern(40, 3)} {
			en := ground.SpringOf(pattern(c.draws, 3))
			file, e := Encrypt(c.masters, en, text)
			if e != c.want || (file == "") != (e != api.OK) || en.Left() != c.left {
				t.Errorf("%s: Encrypt: %d, %d bytes, %d are left; want %d, %d", c.what, e, len(file), en.Left(), c.want, c.left)
			}
		}
	}
}

func TestEncryptIsWhatAWriterGives(t *testing.T) {
	r := rand.New(rand.NewSource(2))
	for masters := 1; masters <= 3; masters++ {
		for n := range 130 {
			draws := randomText(r, 16*(masters+2)+5)
			text := randomText(r, n)
			sink := ground.SinkOf(nil)
			one := ground.SpringOf(draws)
			two := ground.SpringOf(draws)
			w, e := NewWriter(mastersOf(masters), one, sink)
			if e != api.OK {
				t.Fatalf("NewWriter: %d", e)
			}
			wantWrite(t, w, text, n, api.OK)
			wantClose(t, w, api.OK)
			file, e := Encrypt(mastersOf(masters), two, text)
			if e != api.OK || file != sink.Got() || one.Left() != 5 || two.Left() != 5 {
				t.Errorf("%d masters, %d bytes: %d, %d and %d are left", masters, n, e, one.Left(), two.Left())
			}
		}
	}
}

// Draws that one call has taken are gone for the next.
func TestFilesThatShareASpring(t *testing.T) {
	draws := pattern(500, 3)
	en := ground.SpringOf(draws)
	at := 0
	for i := range 7 {
		masters := mastersOf(1 + i%3)
		need := 16 * (len(masters) + 2)
		file, e := Encrypt(masters, en, "text")
		if e != api.OK || file != referenceParts(t, masters, draws[at:at+need], "text").file() {
			t.Errorf("file %d: %d", i, e)
		}
		at += need
		if en.Left() != len(draws)-at {
			t.Errorf("file %d: %d are left, want %d", i, en.Left(), len(draws)-at)
		}
	}
}

func TestLongFile(t *testing.T) {
	text := pattern(3000001, 7)
	file := encrypted(t, mastersOf(3), pattern(80, 7), text)
	if len(file) != 284+16+len(text)+16*((len(text)+15)/16) {
		t.Errorf("%d bytes", len(file))
	}
}

// roomy gives list with spare room behind it, and the whole of its memory.
func roomy(list []string) ([]string, []string) {
	whole := append(slices.Clone(list), "spare", "room", "", pattern(32, 9))
	return whole[:len(list)], whole
}

func TestMastersAreLeftAlone(t *testing.T) {
	for n := range 6 {
		for _, draws := range []int{0, 20, 50, 500} {
			masters, whole := roomy(mastersOf(n))
			before := slices.Clone(whole)
			file, e := Encrypt(masters, ground.SpringOf(pattern(draws, 3)), "some text")
			sink := ground.SinkOf(nil)
			w, f := NewWriter(masters, ground.SpringOf(pattern(draws, 3)), sink)
			if e != f || !slices.Equal(whole, before) {
				t.Errorf("%d masters, %d bytes of draws: %d, %d, or the list was written into", n, draws, e, f)
			}
			if f != api.OK {
				continue
			}
			// The list is not kept: what becomes of it is nothing to the writer.
			for i := range whole {
				whole[i] = "mine"
			}
			wantWrite(t, w, "some text", 9, api.OK)
			wantClose(t, w, api.OK)
			if sink.Got() != file {
				t.Errorf("%d masters: the file was changed by a write into the list", n)
			}
		}
	}
}

func FuzzEncrypt(f *testing.F) {
	f.Add("", "", "", 0, "", "")
	f.Add(pattern(32, 1), pattern(32, 2), pattern(32, 3), 3, pattern(80, 7), pattern(33, 11))
	f.Add(pattern(32, 1), pattern(31, 2), pattern(32, 3), 2, pattern(80, 7), "text")
	f.Add(pattern(32, 1), "", "", 1, pattern(47, 7), "text")
	f.Add(pattern(32, 1), "", "", 4, pattern(200, 7), "é\U0010ffff\xff")
	f.Fuzz(func(t *testing.T, a string, b string, c string, n int, draws string, text string) {
		masters := []string{a, b, c, a, b}[:min(max(n, 0), 5)]
		n = len(masters)
		want := api.OK
		if len(draws) < 16*(n+2) {
			want = api.ErrEntropy
		}
		for _, m := range masters {
			if len(m) != 32 {
				want = api.ErrLen
			}
		}
		if n < 1 || n > 3 {
			want = api.ErrArg
		}
		file, e := Encrypt(masters, ground.SpringOf(draws), text)
		if e != want || (file == "") != (e != api.OK) {
			t.Fatalf("Encrypt: %d, %d bytes, want %d", e, len(file), want)
		}
		if e == api.OK && file != referenceParts(t, masters, draws, text).file() {
			t.Errorf("another file")
		}
	})
}
