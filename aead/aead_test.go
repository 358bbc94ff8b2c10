package aead

import (
	"crypto/sha256"
	"encoding/binary"
	"encoding/hex"
	"fmt"
	"math/rand"
	"strings"
	"testing"

	"strongbox/api"
	"strongbox/chacha"
	"strongbox/poly"
)

func pattern(n int, step int) string {
	b := make([]byte, n)
	for i := range b {
		b[i] = byte(i*step + i/256 + step)
	}
	return string(b)
}

func bytesOf(t *testing.T, s string) string {
	t.Helper()
	b, err := hex.DecodeString(s)
	if err != nil {
		t.Fatal(err)
	}
	return string(b)
}

func randomText(r *rand.Rand, n int) string {
	b := make([]byte, n)
	r.Read(b)
	return string(b)
}

func lengths() []int {
	return []int{0, 1, 2, 15, 16, 17, 31, 32, 33, 47, 48, 49, 63, 64, 65, 100, 127, 128, 129, 255, 256, 257}
}

func filled(s string) string {
	return s + strings.Repeat("\x00", (16-len(s)%16)%16)
}

// reference lays a box together from whole blocks and one whole text under the tag.
func reference(t *testing.T, key string, nonce string, aad string, text string) string {
	t.Helper()
	ciphered := []byte(text)
	for i := range ciphered {
		block, e := chacha.Block(key, nonce, 1+i/64)
		if e != api.OK {
			t.Fatal(e)
		}
		ciphered[i] ^= block[i%64]
	}
	under := []byte(filled(aad) + filled(string(ciphered)))
	under = binary.LittleEndian.AppendUint64(under, uint64(len(aad)))
	under = binary.LittleEndian.AppendUint64(under, uint64(len(ciphered)))
	block, e := chacha.Block(key, nonce, 0)
	if e != api.OK {
		t.Fatal(e)
	}
	tag, e := poly.Tag(block[:32], string(under))
	if e != api.OK {
		t.Fatal(e)
	}
	return string(ciphered) + tag
}

func seal(t *testing.T, key string, nonce string, aad string, text string) string {
	t.Helper()
	box, e := Seal(key, nonce, aad, text)
	if e != api.OK || len(box) != len(text)+16 {
		t.Fatalf("Seal of %d bytes with %d: %d, %d bytes", len(text), len(aad), e, len(box))
	}
	return box
}

func wantText(t *testing.T, key string, nonce string, aad string, box string, want string) {
	t.Helper()
	got, e := Unseal(key, nonce, aad, box)
	if e != api.OK || got != want {
		t.Errorf("Unseal of %d bytes with %d: %d %x, want %x", len(box), len(aad), e, got, want)
	}
}

func wantNoText(t *testing.T, what string, key string, nonce string, aad string, box string, want api.Errno) {
	t.Helper()
	got, e := Unseal(key, nonce, aad, box)
	if e != want || got != "" {
		t.Errorf("%s: Unseal of %d bytes with %d: %d, %d bytes, want %d", what, len(box), len(aad), e, len(got), want)
	}
}

// The document's box, and those of RFC 8439, 2.8.2 and A.5.
func TestKnownBoxes(t *testing.T) {
	for _, c := range []struct{ key, nonce, aad, text, want string }{
		{"0102030405060708090a0b0c0d0e0f101112131415161718191a1b1c1d1e1f20", "020406080a0c0e1012141618", "03", "\x05", "33b1f434fbbaf9c038ad3dd41b875fef48"},
		{
			"808182838485868788898a8b8c8d8e8f909192939495969798999a9b9c9d9e9f", "070000004041424344454647", "50515253c0c1c2c3c4c5c6c7",
			"Ladies and Gentlemen of the class of '99: If I could offer you only one tip for the future, sunscreen would be it.",
			"d31a8d34648e60db7b86afbc53ef7ec2a4aded51296e08fea9e2b5a736ee62d63dbea45e8ca9671282fafb69da92728b1a71de0a9e060b2905d6a5b67ecd3b3692ddbd7f2d778b8c9803aee328091b58fab324e4fad675945585808b4831d7bc3ff4def08e4b7a9de576d26586cec64b61161ae10b594f09e26a7e902ecbd0600691",
		},
		{
			"1c9240a5eb55d38af333888604f6b5f0473917c1402b80099dca5cbc207075c0", "000000000102030405060708", "f33388860000000000004e91",
			"Internet-Drafts are draft documents valid for a maximum of six months and may be updated, replaced, or obsoleted by other documents at any time. It is inappropriate to use Internet-Drafts as reference material or to cite them other than as /“work in progress./”",
			"64a0861575861af460f062c79be643bd5e805cfd345cf389f108670ac76c8cb24c6cfc18755d43eea09ee94e382d26b0bdb7b73c321b0100d4f03b7f355894cf332f830e710b97ce98c8a84abd0b948114ad176e008d33bd60f982b1ff37c8559797a06ef4f0ef61c186324e2b3506383606907b6a7c02b0f9f6157b53c867e4b9166c767b804d46a59b5216cde7a4e99040c5a40433225ee282a1b0a06c523eaf4534d7f83fa1155b0047718cbc546a0d072b04b3564eea1b422273f548271a0bb2316053fa76991955ebd63159434ecebb4e466dae5a1073a6727627097a1049e617d91d361094fa68f0ff77987130305beaba2eda04df997b714d6c6f2c29a6ad5cb4022b02709beead9d67890cbb22392336fea1851f38",
		},
	} {
		key := bytesOf(t, c.key)
		nonce := bytesOf(t, c.nonce)
		aad := bytesOf(t, c.aad)
		box := seal(t, key, nonce, aad, c.text)
		if box != bytesOf(t, c.want) {
			t.Errorf("the box of %d bytes: %x, want %s", len(c.text), box, c.want)
		}
		wantText(t, key, nonce, aad, bytesOf(t, c.want), c.text)
	}
}

// The hash of all these boxes, one behind the other, as another program's ChaCha20-Poly1305 gives them.
func TestKnownGrid(t *testing.T) {
	h := sha256.New()
	for _, n := range lengths() {
		for _, k := range lengths() {
			h.Write([]byte(seal(t, pattern(32, n+1), pattern(12, k+1), pattern(n, 3), pattern(k, 5))))
		}
	}
	got := fmt.Sprintf("%x", h.Sum(nil))
	want := "28a3d93668704ec2a8abff4b6f668e5b0c277141c948ec7ec8971a20bc5cfce0"
	if got != want {
		t.Errorf("%s, want %s", got, want)
	}
}

func TestSealAndUnseal(t *testing.T) {
	r := rand.New(rand.NewSource(9))
	for _, n := range lengths() {
		for _, k := range lengths() {
			key := randomText(r, 32)
			nonce := randomText(r, 12)
			aad := randomText(r, k)
			text := randomText(r, n)
			box := seal(t, key, nonce, aad, text)
			if box != reference(t, key, nonce, aad, text) {
				t.Errorf("the box of %d bytes with %d: %x", n, k, box)
			}
			wantText(t, key, nonce, aad, box, text)
			// Neither call leaves anything behind.
			if seal(t, key, nonce, aad, text) != box {
				t.Errorf("the second box of %d bytes with %d is another", n, k)
			}
			wantText(t, key, nonce, aad, box, text)
		}
	}
}

func TestLongText(t *testing.T) {
	key := pattern(32, 3)
	nonce := pattern(12, 5)
	text := pattern(100000, 7)
	aad := pattern(70000, 9)
	box := seal(t, key, nonce, aad, text)
	if box != reference(t, key, nonce, aad, text) {
		t.Errorf("the box of %d bytes with %d is another", len(text), len(aad))
	}
	wantText(t, key, nonce, aad, box, text)
}

func TestWrongLengths(t *testing.T) {
	for length := range 100 {
		for _, c := range [][2]int{{length, 12}, {32, length}, {length, length}, {length, 44 - length}} {
			if c[1] < 0 || c[0] == 32 && c[1] == 12 {
				continue
			}
			key := pattern(c[0], 3)
			nonce := pattern(c[1], 5)
			what := fmt.Sprintf("a key of %d bytes, a nonce of %d", c[0], c[1])
			for _, s := range []string{"", "text", pattern(16, 7), pattern(40, 7)} {
				got, e := Seal(key, nonce, s, s)
				if e != api.ErrLen || got != "" {
					t.Errorf("%s: Seal: %d, %d bytes", what, e, len(got))
				}
				// ErrLen comes ahead of ErrTag, of boxes that are too short, too.
				wantNoText(t, what, key, nonce, s, s, api.ErrLen)
			}
		}
	}
}

func TestShortBoxes(t *testing.T) {
	key := pattern(32, 3)
	nonce := pattern(12, 5)
	tag := seal(t, key, nonce, "", "")
	for n := range 16 {
		for _, aad := range []string{"", "aad"} {
			wantNoText(t, "a short box", key, nonce, aad, pattern(n, 7), api.ErrTag)
			wantNoText(t, "the tag's beginning", key, nonce, aad, tag[:n], api.ErrTag)
			wantNoText(t, "the tag's end", key, nonce, aad, tag[16-n:], api.ErrTag)
			wantNoText(t, "noughts", key, nonce, aad, strings.Repeat("\x00", n), api.ErrTag)
		}
	}
	wantText(t, key, nonce, "", tag, "")
	wantNoText(t, "16 noughts", key, nonce, "", strings.Repeat("\x00", 16), api.ErrTag)
}

// flips gives s with each of its bits turned, one at a time.
func flips(s string) []string {
	l := []string{}
	for bit := range 8 * len(s) {
		b := []byte(s)
		b[bit/8] ^= 1 << (bit % 8)
		l = append(l, string(b))
	}
	return l
}

func TestEachBitIsUnderTheTag(t *testing.T) {
	key := pattern(32, 3)
	nonce := pattern(12, 5)
	for _, n := range []int{0, 1, 15, 16, 17, 65} {
		for _, k := range []int{0, 1, 15, 16, 17} {
			aad := pattern(k, 7)
			text := pattern(n, 9)
			box := seal(t, key, nonce, aad, text)
			for i, other := range flips(box) {
				wantNoText(t, fmt.Sprintf("bit %d of the box", i), key, nonce, aad, other, api.ErrTag)
			}
			for i, other := range flips(aad) {
				wantNoText(t, fmt.Sprintf("bit %d of aad", i), key, nonce, other, box, api.ErrTag)
			}
			for i, other := range flips(nonce) {
				wantNoText(t, fmt.Sprintf("bit %d of the nonce", i), key, other, aad, box, api.ErrTag)
			}
			for i, other := range flips(key) {
				wantNoText(t, fmt.Sprintf("bit %d of the key", i), other, nonce, aad, box, api.ErrTag)
			}
			wantText(t, key, nonce, aad, box, text)
		}
	}
}

func TestOtherLengthsOfBoxAndAad(t *testing.T) {
	key := pattern(32, 3)
	nonce := pattern(12, 5)
	for _, n := range []int{0, 1, 15, 16, 17, 32, 65} {
		for _, k := range []int{0, 1, 15, 16, 17, 32} {
			aad := pattern(k, 7)
			box := seal(t, key, nonce, aad, pattern(n, 9))
			for cut := range len(box) {
				wantNoText(t, "a box without its end", key, nonce, aad, box[:cut], api.ErrTag)
				wantNoText(t, "a box without its beginning", key, nonce, aad, box[len(box)-cut:], api.ErrTag)
			}
			for cut := range len(aad) {
				wantNoText(t, "aad without its end", key, nonce, aad[:cut], box, api.ErrTag)
			}
			for more := 1; more <= 33; more++ {
				noughts := strings.Repeat("\x00", more)
				wantNoText(t, "noughts behind the box", key, nonce, aad, box+noughts, api.ErrTag)
				wantNoText(t, "noughts ahead of the box", key, nonce, aad, noughts+box, api.ErrTag)
				wantNoText(t, "noughts ahead of the tag", key, nonce, aad, box[:n]+noughts+box[n:], api.ErrTag)
				wantNoText(t, "noughts behind aad", key, nonce, aad+noughts, box, api.ErrTag)
			}
		}
	}
}

// Bytes that wander from aad to the ciphered text, or back, are told by the two lengths alone.
func TestBorderBetweenAadAndText(t *testing.T) {
	key := pattern(32, 3)
	nonce := pattern(12, 5)
	aad := pattern(48, 7)
	box := seal(t, key, nonce, aad, pattern(48, 9))
	whole := aad + box
	for cut := 0; cut <= len(whole); cut++ {
		if cut == len(aad) {
			wantText(t, key, nonce, whole[:cut], whole[cut:], pattern(48, 9))
			continue
		}
		wantNoText(t, fmt.Sprintf("aad of %d bytes", cut), key, nonce, whole[:cut], whole[cut:], api.ErrTag)
	}
}

func TestTagOfAnotherBox(t *testing.T) {
	key := pattern(32, 3)
	nonce := pattern(12, 5)
	one := seal(t, key, nonce, "aad", "the first text")
	two := seal(t, key, nonce, "aad", "the other text")
	cut := len("the first text")
	wantNoText(t, "the other's tag", key, nonce, "aad", one[:cut]+two[cut:], api.ErrTag)
	wantNoText(t, "the other's text", key, nonce, "aad", two[:cut]+one[cut:], api.ErrTag)
	wantNoText(t, "the other's box under no aad", key, nonce, "", two, api.ErrTag)
}

func FuzzAnyBox(f *testing.F) {
	f.Add("", "", "", "")
	f.Add(pattern(32, 1), pattern(12, 1), "aad", "text")
	f.Add(pattern(32, 1), pattern(12, 1), "", pattern(15, 3))
	f.Add(pattern(32, 1), pattern(12, 1), pattern(16, 5), pattern(16, 3))
	f.Add(pattern(33, 1), pattern(11, 1), "é\U0010ffff\xff", pattern(17, 3))
	f.Fuzz(func(t *testing.T, key string, nonce string, aad string, s string) {
		if len(key) != 32 || len(nonce) != 12 {
			got, e := Seal(key, nonce, aad, s)
			if e != api.ErrLen || got != "" {
				t.Errorf("Seal: %d, %d bytes", e, len(got))
			}
			wantNoText(t, "wrong lengths", key, nonce, aad, s, api.ErrLen)
			return
		}
		box := seal(t, key, nonce, aad, s)
		if box != reference(t, key, nonce, aad, s) {
			t.Errorf("the box is %x", box)
		}
		wantText(t, key, nonce, aad, box, s)
		wantNoText(t, "more aad", key, nonce, aad+"\x00", box, api.ErrTag)
		text, e := Unseal(key, nonce, aad, s)
		if e == api.OK && seal(t, key, nonce, aad, text) != s {
			t.Errorf("a box that Seal does not give opens: %x", s)
		}
		if e != api.OK && (e != api.ErrTag || text != "") {
			t.Errorf("Unseal: %d, %d bytes", e, len(text))
		}
	})
}
