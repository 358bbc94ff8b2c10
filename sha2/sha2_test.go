package sha2

import (
	"crypto/sha256"
	"fmt"
	"math/rand"
	"strings"
	"testing"
)

// pattern gives n bytes in which every byte value comes and no two neighbours are the same.
func pattern(n int, step int) string {
	b := make([]byte, n)
	for i := range b {
		b[i] = byte(i*step + i/256 + step)
	}
	return string(b)
}

func reference(s string) string {
	h := sha256.Sum256([]byte(s))
	return string(h[:])
}

func check(t *testing.T, what string, got string, want string) {
	t.Helper()
	if got != want {
		t.Errorf("%s: %x, want %x", what, got, want)
	}
}

// edges are the lengths around 56 and 64 bytes and their multiples.
func edges() []int {
	l := []int{0, 1, 2}
	for m := 64; m <= 1024; m += 64 {
		for d := -2; d <= 2; d++ {
			l = append(l, m-8+d, m+d)
		}
	}
	for m := 112; m <= 1024; m += 56 {
		for d := -1; d <= 1; d++ {
			l = append(l, m+d)
		}
	}
	return l
}

func TestKnownHashes(t *testing.T) {
	for _, c := range []struct{ s, want string }{
		{"", "e3b0c44298fc1c149afbf4c8996fb92427ae41e4649b934ca495991b7852b855"},
		{"abc", "ba7816bf8f01cfea414140de5dae2223b00361a396177a9cb410ff61f20015ad"},
		{"abcdbcdecdefdefgefghfghighijhijkijkljklmklmnlmnomnopnopq", "248d6a61d20638b8e5c026930c3e6039a33ce45964ff2167f6ecedd419db06c1"},
		{"abcdefghbcdefghicdefghijdefghijkefghijklfghijklmghijklmnhijklmnoijklmnopjklmnopqklmnopqrlmnopqrsmnopqrstnopqrstu", "cf5b16a778af8380036ce59e7b0492370b249b11e8f07a51afac45037afee9d1"},
		{strings.Repeat("a", 1000000), "cdc76e5c9914fb9281a1c7e284d73e67f1809a48a497200e046d39ccc7112cd0"},
	} {
		got := fmt.Sprintf("%x", Sum(c.s))
		if got != c.want {
			t.Errorf("the hash of %d bytes: %s, want %s", len(c.s), got, c.want)
		}
	}
}

func TestEveryShortLength(t *testing.T) {
	for n := 0; n <= 330; n++ {
		s := pattern(n, 7)
		check(t, fmt.Sprintf("%d bytes", n), Sum(s), reference(s))
	}
}

func TestLengthsAroundBlocks(t *testing.T) {
	for _, n := range edges() {
		for _, s := range []string{pattern(n, 11), strings.Repeat("\x00", n), strings.Repeat("\xff", n), strings.Repeat("\x80", n)} {
			check(t, fmt.Sprintf("%d bytes", n), Sum(s), reference(s))
		}
	}
}

func TestOneByteTexts(t *testing.T) {
	for b := 0; b < 256; b++ {
		s := string([]byte{byte(b)})
		check(t, fmt.Sprintf("the byte %d", b), Sum(s), reference(s))
	}
}

// The number of the bits outgrows four bytes at 2^29 bytes.
func TestLengthOfMoreThanFourBytes(t *testing.T) {
	if testing.Short() {
		t.Skip("takes seconds")
	}
	piece := pattern(1<<20, 3)
	x := Begin()
	want := sha256.New()
	for i := 0; i < 1<<9; i++ {
		x.Write(piece)
		want.Write([]byte(piece))
	}
	check(t, "2^29 bytes", x.Sum(), string(want.Sum(nil)))
	x.Write("abc")
	want.Write([]byte("abc"))
	check(t, "2^29 + 3 bytes", x.Sum(), string(want.Sum(nil)))
}

func TestTwoPieces(t *testing.T) {
	for _, n := range []int{0, 1, 55, 56, 57, 63, 64, 65, 119, 120, 127, 128, 129, 200} {
		s := pattern(n, 5)
		for k := 0; k <= n; k++ {
			x := Begin()
			x.Write(s[:k])
			x.Write("")
			x.Write(s[k:])
			check(t, fmt.Sprintf("%d bytes behind %d", n-k, k), x.Sum(), reference(s))
		}
	}
}

func TestManyPieces(t *testing.T) {
	s := pattern(1000, 13)
	for k := 1; k <= 200; k++ {
		x := Begin()
		for i := 0; i < len(s); i += k {
			x.Write(s[i:min(i+k, len(s))])
		}
		check(t, fmt.Sprintf("pieces of %d bytes", k), x.Sum(), reference(s))
	}
}

func TestSumChangesNothing(t *testing.T) {
	s := pattern(300, 9)
	x := Begin()
	for n := 0; n < len(s); n++ {
		for again := 0; again < 3; again++ {
			check(t, fmt.Sprintf("Sum %d behind %d bytes", again, n), x.Sum(), reference(s[:n]))
		}
		x.Write(s[n : n+1])
	}
}

func TestReset(t *testing.T) {
	for _, n := range edges() {
		x := Begin()
		x.Write(pattern(n, 3))
		x.Reset()
		check(t, fmt.Sprintf("Reset behind %d bytes", n), x.Sum(), reference(""))
		x.Write("abc")
		check(t, fmt.Sprintf("abc behind Reset behind %d bytes", n), x.Sum(), reference("abc"))
		x.Reset()
		x.Reset()
		s := pattern(n, 17)
		x.Write(s)
		check(t, fmt.Sprintf("%d bytes behind Reset", n), x.Sum(), reference(s))
	}
}

func TestCopyAndFirstAreTwo(t *testing.T) {
	for _, n := range edges() {
		s := pattern(n, 3)
		x := Begin()
		x.Write(s)
		y := x.Copy()
		check(t, fmt.Sprintf("a copy behind %d bytes", n), y.Sum(), reference(s))
		long := pattern(150, 5)
		x.Write(long)
		check(t, "the copy, when the first was written to", y.Sum(), reference(s))
		y.Write("other")
		check(t, "the first, when the copy was written to", x.Sum(), reference(s+long))
		check(t, "the copy, when both were written to", y.Sum(), reference(s+"other"))
		z := y.Copy()
		y.Reset()
		check(t, "the first, when the copy was reset", x.Sum(), reference(s+long))
		check(t, "a copy of the copy, when the copy was reset", z.Sum(), reference(s+"other"))
		x.Reset()
		check(t, "a copy of the copy, when the first was reset", z.Sum(), reference(s+"other"))
		check(t, "a copy that was reset", y.Sum(), reference(""))
	}
}

// Many hashers live side by side under calls in a random order; each must go on telling the hash of its own text.
func TestHashersSideBySide(t *testing.T) {
	r := rand.New(rand.NewSource(1))
	hashers := []*Hasher{Begin(), Begin(), Begin()}
	texts := []string{"", "", ""}
	for step := 0; step < 6000; step++ {
		i := r.Intn(len(hashers))
		switch r.Intn(12) {
		case 0:
			hashers[i].Reset()
			texts[i] = ""
		case 1:
			j := r.Intn(len(hashers))
			hashers[j] = hashers[i].Copy()
			texts[j] = texts[i]
		case 2:
			hashers[i] = Begin()
			texts[i] = ""
		case 3, 4:
			hashers[i].Sum()
		default:
			piece := make([]byte, r.Intn(100))
			r.Read(piece)
			hashers[i].Write(string(piece))
			texts[i] += string(piece)
		}
		for k := range hashers {
			if hashers[k].Sum() != reference(texts[k]) {
				t.Fatalf("step %d: hasher %d with %d bytes", step, k, len(texts[k]))
			}
		}
	}
}

func FuzzAnyText(f *testing.F) {
	f.Add("", 0)
	f.Add("\xff\xfe\x00", -1)
	f.Add(strings.Repeat("\x80", 56), 1)
	f.Add("é\u2028\U0010ffff", 1<<62)
	f.Fuzz(func(t *testing.T, s string, cut int) {
		k := min(max(cut, 0), len(s))
		x := Begin()
		x.Write(s[:k])
		x.Write(s[k:])
		check(t, "in pieces", x.Sum(), reference(s))
		check(t, "whole", Sum(s), reference(s))
	})
}
