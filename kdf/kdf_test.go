package kdf

import (
	"crypto/hkdf"
	"crypto/hmac"
	"crypto/sha256"
	"encoding/hex"
	"fmt"
	"math"
	"math/rand"
	"strings"
	"testing"

	"strongbox/api"
	"strongbox/sha2"
)

func pattern(n int, step int) string {
	b := make([]byte, n)
	for i := range b {
		b[i] = byte(i*step + i/256 + step)
	}
	return string(b)
}

func bytesOf(t *testing.T, s string) string {
	t.Helper()
	b, err := hex.DecodeString(s)
	if err != nil {
		t.Fatal(err)
	}
	return string(b)
}

func check(t *testing.T, what string, got string, want string) {
	t.Helper()
	if got != want {
		t.Errorf("%s: %x, want %x", what, got, want)
	}
}

func referenceMac(key string, text string) string {
	m := hmac.New(sha256.New, []byte(key))
	m.Write([]byte(text))
	return string(m.Sum(nil))
}

func referenceExpand(t *testing.T, prk string, info string, n int) string {
	t.Helper()
	out, err := hkdf.Expand(sha256.New, []byte(prk), info, n)
	if err != nil {
		t.Fatal(err)
	}
	return string(out)
}

func referenceKey(t *testing.T, ikm string, salt string, info string) string {
	t.Helper()
	out, err := hkdf.Key(sha256.New, []byte(ikm), []byte(salt), info, 32)
	if err != nil {
		t.Fatal(err)
	}
	return string(out)
}

// The cases of RFC 4231.
func TestKnownMacs(t *testing.T) {
	for _, c := range []struct{ key, text, want string }{
		{strings.Repeat("\x0b", 20), "Hi There", "b0344c61d8db38535ca8afceaf0bf12b881dc200c9833da726e9376c2e32cff7"},
		{"Jefe", "what do ya want for nothing?", "5bdcc146bf60754e6a042426089575c75a003f089d2739839dec58b964ec3843"},
		{strings.Repeat("\xaa", 20), strings.Repeat("\xdd", 50), "773ea91e36800e46854db8ebd09181a72959098b3ef8c122d9635514ced565fe"},
		{strings.Repeat("\xaa", 131), "Test Using Larger Than Block-Size Key - Hash Key First", "60e431591ee0b67f0d8a26aacbf5b77f8e0bc6213728c5140546040f0ee37f54"},
		{strings.Repeat("\xaa", 131), "This is a test using a larger than block-size key and a larger than block-size data. The key needs to be hashed before being used by the HMAC algorithm.", "9b09ffa71b942fcb27635fbcd5b0e944bfdc63644f0713938a7f51535c3a35e2"},
	} {
		check(t, fmt.Sprintf("HMAC under %d bytes", len(c.key)), HMAC(c.key, c.text), bytesOf(t, c.want))
	}
}

func TestMacAtEveryLengthOfKey(t *testing.T) {
	for n := 0; n <= 200; n++ {
		for _, k := range []int{0, 1, 55, 56, 64, 65, 130} {
			key := pattern(n, 3)
			text := pattern(k, 5)
			check(t, fmt.Sprintf("HMAC of %d bytes under %d", k, n), HMAC(key, text), referenceMac(key, text))
			check(t, fmt.Sprintf("Extract of %d bytes with %d", k, n), Extract(key, text), referenceMac(key, text))
		}
	}
}

func TestKeyOfMoreThanABlockIsHashed(t *testing.T) {
	for _, n := range []int{65, 66, 128, 1000} {
		key := pattern(n, 7)
		check(t, fmt.Sprintf("a key of %d bytes", n), HMAC(key, "text"), HMAC(sha2.Sum(key), "text"))
	}
	full := pattern(64, 7)
	if HMAC(full, "text") == HMAC(sha2.Sum(full), "text") {
		t.Errorf("a key of 64 bytes is hashed")
	}
	check(t, "a key with bytes 0 behind", HMAC("key\x00\x00", "text"), HMAC("key", "text"))
	if HMAC(full, "text") == HMAC(full+"\x00", "text") {
		t.Errorf("a byte 0 behind a key of 64 bytes is lost")
	}
}

func TestMacInPieces(t *testing.T) {
	for _, keyLen := range []int{0, 32, 64, 65, 130} {
		key := pattern(keyLen, 3)
		text := pattern(200, 11)
		for k := 0; k <= len(text); k++ {
			m := Begin(key)
			m.Write(text[:k])
			m.Write("")
			m.Write(text[k:])
			check(t, fmt.Sprintf("%d bytes, then the rest", k), m.Sum(), referenceMac(key, text))
		}
	}
}

func TestMacSumChangesNothing(t *testing.T) {
	for _, keyLen := range []int{0, 64, 65} {
		key := pattern(keyLen, 3)
		text := pattern(150, 9)
		m := Begin(key)
		for n := 0; n < len(text); n++ {
			for again := 0; again < 3; again++ {
				check(t, fmt.Sprintf("Sum %d behind %d bytes", again, n), m.Sum(), referenceMac(key, text[:n]))
			}
			m.Write(text[n : n+1])
		}
	}
}

// Many macs live side by side under calls in a random order; each must go on telling the mac of its own text.
func TestMacsSideBySide(t *testing.T) {
	r := rand.New(rand.NewSource(2))
	keys := make([]string, 4)
	texts := make([]string, 4)
	macs := make([]*Mac, 4)
	for i := range macs {
		macs[i] = Begin("")
	}
	for step := 0; step < 3000; step++ {
		i := r.Intn(len(macs))
		piece := make([]byte, r.Intn(100))
		r.Read(piece)
		switch r.Intn(10) {
		case 0:
			keys[i] = string(piece)
			texts[i] = ""
			macs[i] = Begin(keys[i])
		case 1:
			// Two macs under one key share nothing.
			j := r.Intn(len(macs))
			keys[j] = keys[i]
			texts[j] = ""
			macs[j] = Begin(keys[i])
		case 2:
			j := r.Intn(len(macs))
			c := *macs[i]
			keys[j] = keys[i]
			texts[j] = texts[i]
			macs[j] = &c
		default:
			macs[i].Write(string(piece))
			texts[i] += string(piece)
		}
		for k := range macs {
			if macs[k].Sum() != referenceMac(keys[k], texts[k]) {
				t.Fatalf("step %d: mac %d with %d bytes", step, k, len(texts[k]))
			}
		}
	}
}

// The cases of RFC 5869 for SHA-256.
func TestKnownExpansions(t *testing.T) {
	for i, c := range []struct {
		ikm, salt, info, prk, okm string
	}{
		{
			strings.Repeat("0b", 22), "000102030405060708090a0b0c", "f0f1f2f3f4f5f6f7f8f9",
			"077709362c2e32df0ddc3f0dc47bba6390b6c73bb50f9c3122ec844ad7c2b3e5",
			"3cb25f25faacd57a90434f64d0362f2a2d2d0a90cf1a5a4c5db02d56ecc4c5bf34007208d5b887185865",
		},
		{
			strings.Repeat("0b", 22), "", "",
			"19ef24a32c717b167f33a91d6f648bdf96596776afdb6377ac434c1c293ccb04",
			"8da4e775a563c18f715f802a063c5a31b8a11f5c5ee1879ec3454e5f3c738d2d9d201395faa4b61a96c8",
		},
	} {
		prk := Extract(bytesOf(t, c.salt), bytesOf(t, c.ikm))
		check(t, fmt.Sprintf("Extract, case %d", i), prk, bytesOf(t, c.prk))
		okm, e := Expand(prk, bytesOf(t, c.info), len(c.okm)/2)
		if e != api.OK {
			t.Errorf("Expand, case %d: %d", i, e)
		}
		check(t, fmt.Sprintf("Expand, case %d", i), okm, bytesOf(t, c.okm))
	}
}

func TestExpandLengths(t *testing.T) {
	for _, n := range []int{0, 1, 2, 31, 32, 33, 63, 64, 65, 255, 256, 1000, 8127, 8128, 8129, 8159, 8160} {
		for _, prk := range []string{"", pattern(32, 9), pattern(64, 9), pattern(65, 9)} {
			for _, info := range []string{"", "use", pattern(200, 3)} {
				got, e := Expand(prk, info, n)
				if e != api.OK || len(got) != n {
					t.Errorf("Expand to %d bytes: %d, %d bytes", n, e, len(got))
				}
				check(t, fmt.Sprintf("Expand to %d bytes", n), got, referenceExpand(t, prk, info, n))
			}
		}
	}
}

func TestShorterExpansionBeginsTheLonger(t *testing.T) {
	long, _ := Expand("prk", "info", 300)
	for n := 0; n <= 300; n++ {
		got, e := Expand("prk", "info", n)
		if e != api.OK {
			t.Errorf("Expand to %d bytes: %d", n, e)
		}
		check(t, fmt.Sprintf("Expand to %d bytes", n), got, long[:n])
	}
}

func TestExpandOutOfBounds(t *testing.T) {
	for _, n := range []int{-1, -2, -32, -8160, 8161, 8162, 8192, 1 << 31, 1 << 32, 1<<32 + 1, math.MinInt, math.MinInt + 1, math.MaxInt, math.MaxInt - 1} {
		for _, s := range []string{"", "text", pattern(100, 3)} {
			got, e := Expand(s, s, n)
			if e != api.ErrArg || got != "" {
				t.Errorf("Expand to %d bytes: %d, %d bytes", n, e, len(got))
			}
		}
	}
}

func TestKey(t *testing.T) {
	check(t, "Key, the document's example", Key("ikm", "salt", "info"), bytesOf(t, "fe8f9615d2374c0d17f77d1aeaf408c2e75fe0466073d0def23c733e2f862dfd"))
	for _, ikm := range []string{"", "k", pattern(16, 3), pattern(32, 3), pattern(100, 3)} {
		for _, salt := range []string{"", "s", pattern(16, 5), pattern(64, 5), pattern(65, 5)} {
			for _, info := range []string{"", api.InWrap, api.InHead, api.InBody, pattern(100, 7)} {
				check(t, fmt.Sprintf("Key of %x, %x, %x", ikm, salt, info), Key(ikm, salt, info), referenceKey(t, ikm, salt, info))
			}
		}
	}
}

func TestSame(t *testing.T) {
	texts := []string{"", "\x00", "\x00\x00", "a", "b", "A", "aa", "ab", "ba", "bb", "\x80", "\xff", "\xff\xff", "aaa", pattern(32, 3), pattern(33, 3), pattern(31, 3)}
	for i, a := range texts {
		for j, b := range texts {
			if Same(a, b) != (i == j) {
				t.Errorf("Same(%x, %x) is %v", a, b, Same(a, b))
			}
		}
	}
	for n := 1; n <= 70; n++ {
		s := pattern(n, 5)
		if !Same(s, strings.Clone(s)) || Same(s, s[:n-1]) || Same(s[:n-1], s) {
			t.Errorf("Same at %d bytes", n)
		}
		for i := 0; i < n; i++ {
			for bit := 0; bit < 8; bit++ {
				b := []byte(s)
				b[i] ^= 1 << bit
				if Same(s, string(b)) || Same(string(b), s) {
					t.Errorf("Same where bit %d of byte %d of %d is another", bit, i, n)
				}
			}
		}
	}
	// Two differences that are the same in themselves must not cancel out.
	if Same("ab", "ba") || Same("\x01\x01", "\x00\x00") || Same("\x80\x80", "\x00\x00") {
		t.Errorf("Same where two bytes are others")
	}
}

func FuzzAnyInput(f *testing.F) {
	f.Add("", "", "", 0)
	f.Add("\xff", "\x00", "\x80", -1)
	f.Add(strings.Repeat("\xff", 65), "é", "\U0010ffff", 8161)
	f.Add("key", "text", "info", math.MaxInt)
	f.Add("key", "text", "info", math.MinInt)
	f.Add(strings.Repeat("k", 64), strings.Repeat("t", 56), "info", 8160)
	f.Fuzz(func(t *testing.T, a string, b string, c string, n int) {
		check(t, "HMAC", HMAC(a, b), referenceMac(a, b))
		check(t, "Extract", Extract(a, b), referenceMac(a, b))
		check(t, "Key", Key(a, b, c), referenceKey(t, a, b, c))
		if Same(a, b) != (a == b) {
			t.Errorf("Same(%x, %x)", a, b)
		}
		got, e := Expand(a, b, n)
		if n < 0 || n > 8160 {
			if e != api.ErrArg || got != "" {
				t.Errorf("Expand to %d bytes: %d, %d bytes", n, e, len(got))
			}
			return
		}
		if e != api.OK {
			t.Errorf("Expand to %d bytes: %d", n, e)
		}
		check(t, "Expand", got, referenceExpand(t, a, b, n))
	})
}
