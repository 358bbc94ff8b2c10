package poly

import (
	"encoding/hex"
	"fmt"
	"math/big"
	"math/rand"
	"slices"
	"strings"
	"testing"

	"strongbox/api"
)

func pattern(n int, step int) string {
	b := make([]byte, n)
	for i := range b {
		b[i] = byte(i*step + i/256 + step)
	}
	return string(b)
}

func bytesOf(t *testing.T, s string) string {
	t.Helper()
	b, err := hex.DecodeString(s)
	if err != nil {
		t.Fatal(err)
	}
	return string(b)
}

func randomText(r *rand.Rand, n int) string {
	b := make([]byte, n)
	r.Read(b)
	return string(b)
}

func power(n uint) *big.Int { return new(big.Int).Lsh(big.NewInt(1), n) }

// prime is 2^130 - 5.
func prime() *big.Int { return new(big.Int).Sub(power(130), big.NewInt(5)) }

// bigOf gives the number of bytes, the lowest first.
func bigOf(s string) *big.Int {
	b := []byte(s)
	slices.Reverse(b)
	return new(big.Int).SetBytes(b)
}

// sixteen gives the lowest 16 bytes of n, the lowest first.
func sixteen(n *big.Int) string {
	low := new(big.Int).Mod(n, power(128))
	b := low.FillBytes(make([]byte, 16))
	slices.Reverse(b)
	return string(b)
}

// clampedOf gives r of a key, by the one mask that the RFC tells.
func clampedOf(key string) *big.Int {
	mask, _ := new(big.Int).SetString("0ffffffc0ffffffc0ffffffc0fffffff", 16)
	return mask.And(mask, bigOf(key[:16]))
}

// referenceSum is the sum ahead of s, below 2^130 - 5.
func referenceSum(r *big.Int, text string) *big.Int {
	sum := new(big.Int)
	for i := 0; i < len(text); i += 16 {
		sum.Add(sum, bigOf(text[i:min(i+16, len(text))]+"\x01"))
		sum.Mul(sum, r)
		sum.Mod(sum, prime())
	}
	return sum
}

func reference(key string, text string) string {
	sum := referenceSum(clampedOf(key), text)
	return sixteen(sum.Add(sum, bigOf(key[16:])))
}

func begin(t *testing.T, key string) *Tagger {
	t.Helper()
	x, e := Begin(key)
	if e != api.OK || x == nil {
		t.Fatalf("Begin: %d", e)
	}
	return x
}

func wantSum(t *testing.T, what string, x *Tagger, want string) {
	t.Helper()
	got := x.Sum()
	if got != want {
		t.Errorf("%s: %x, want %x", what, got, want)
	}
}

func wantTag(t *testing.T, key string, text string, want string) {
	t.Helper()
	got, e := Tag(key, text)
	if e != api.OK || got != want {
		t.Errorf("the tag of %d bytes %x under %x: %d %x, want %x", len(text), text, key, e, got, want)
	}
}

func nought(n int) string { return strings.Repeat("\x00", n) }

// number16 gives 16 bytes whose number is n.
func number16(n byte) string { return string([]byte{n}) + nought(15) }

// The tags of RFC 8439, 2.5.2 and A.3.
func TestKnownTags(t *testing.T) {
	ones := strings.Repeat("\xff", 16)
	jabber := "'Twas brillig, and the slithy toves\nDid gyre and gimble in the wabe:\nAll mimsy were the borogoves,\nAnd the mome raths outgrabe."
	ten := bytesOf(t, "0100000000000000040000000000000000000000000000000000000000000000")
	tenText := bytesOf(t, "e33594d7505e43b900000000000000003394d7505e4379cd01000000000000000000000000000000000000000000000001000000000000000000000000000000")
	for _, c := range []struct{ key, text, want string }{
		{bytesOf(t, "85d6be7857556d337f4452fe42d506a80103808afb0db2fd4abff6af4149f51b"), "Cryptographic Forum Research Group", "a8061dc1305136c6c22b8baf0c0127a9"},
		{nought(32), nought(64), "00000000000000000000000000000000"},
		{nought(16) + bytesOf(t, "36e5f6b5c5e06070f0efca96227a863e"), jabber, "36e5f6b5c5e06070f0efca96227a863e"},
		{bytesOf(t, "1c9240a5eb55d38af333888604f6b5f0473917c1402b80099dca5cbc207075c0"), jabber, "4541669a7eaaee61e708dc7cbcc5eb62"},
		{number16(2) + nought(16), ones, "03000000000000000000000000000000"},
		{number16(2) + ones, number16(2), "03000000000000000000000000000000"},
		{number16(1) + nought(16), ones + "\xf0" + ones[1:] + number16(17), "05000000000000000000000000000000"},
		{number16(1) + nought(16), ones + "\xfb" + strings.Repeat("\xfe", 15) + strings.Repeat("\x01", 16), "00000000000000000000000000000000"},
		{number16(2) + nought(16), "\xfd" + ones[1:], "faffffffffffffffffffffffffffffff"},
		{ten, tenText, "14000000000000005500000000000000"},
		{ten, tenText[:48], "13000000000000000000000000000000"},
	} {
		wantTag(t, c.key, c.text, bytesOf(t, c.want))
	}
}

func keys(r *rand.Rand) []string {
	l := []string{nought(32), strings.Repeat("\xff", 32), number16(1) + nought(16), number16(1) + strings.Repeat("\xff", 16), strings.Repeat("\xff", 16) + nought(16), nought(16) + strings.Repeat("\xff", 16), pattern(32, 13)}
	for range 5 {
		l = append(l, randomText(r, 32))
	}
	return l
}

func TestEveryShortLength(t *testing.T) {
	r := rand.New(rand.NewSource(6))
	for _, key := range keys(r) {
		for n := range 100 {
			for _, text := range []string{pattern(n, 3), nought(n), strings.Repeat("\xff", n), randomText(r, n)} {
				wantTag(t, key, text, reference(key, text))
			}
		}
	}
}

// No text adds nothing; bytes 0 do, since the byte 1 stands behind them, and their number counts.
func TestTextsOfNoughts(t *testing.T) {
	key := number16(1) + nought(16)
	wantTag(t, key, "", nought(16))
	for n := 1; n < 16; n++ {
		wantTag(t, key, nought(n), nought(n)+"\x01"+nought(15-n))
	}
	wantTag(t, key, nought(16), nought(16))
	wantTag(t, key, nought(17), nought(1)+"\x01"+nought(14))
	// Four times 2^128 is 2^130, which leaves 5.
	wantTag(t, key, nought(64), number16(5))
}

func TestClamping(t *testing.T) {
	for bit := range 256 {
		key := make([]byte, 32)
		key[bit/8] = 1 << (bit % 8)
		lost := bit < 128 && (bit/8%4 == 3 && bit%8 >= 4 || bit/8%4 == 0 && bit >= 8 && bit%8 < 2)
		for _, text := range []string{"a", pattern(16, 7), pattern(33, 7)} {
			wantTag(t, string(key), text, reference(string(key), text))
			got, _ := Tag(string(key), text)
			if lost != (got == nought(16)) {
				t.Errorf("bit %d of the key: %x", bit, got)
			}
		}
	}
	for i := range 32 {
		key := []byte(nought(32))
		key[i] = 255
		wantTag(t, string(key), pattern(40, 7), reference(string(key), pattern(40, 7)))
	}
}

func TestWrongLengths(t *testing.T) {
	for n := range 100 {
		x, e := Begin(pattern(n, 3))
		tag, f := Tag(pattern(n, 3), "text")
		if n == 32 {
			if e != api.OK || f != api.OK || x == nil || len(tag) != 16 {
				t.Errorf("a key of 32 bytes: %d %d", e, f)
			}
			continue
		}
		if e != api.ErrLen || f != api.ErrLen || x != nil || tag != "" {
			t.Errorf("a key of %d bytes: %d %d, %d bytes", n, e, f, len(tag))
		}
	}
}

// Under r = 1 the sum is that of the pieces: here each number from 40 below 2^130 - 5 to 40 above 2^130, made of three pieces.
func TestSumsAroundThePrime(t *testing.T) {
	for d := int64(-40); d <= 45; d++ {
		target := new(big.Int).Add(prime(), big.NewInt(d))
		rest := new(big.Int).Sub(target, new(big.Int).Mul(big.NewInt(3), power(128)))
		first := new(big.Int).Rsh(rest, 1)
		second := new(big.Int).Sub(rest, first)
		text := sixteen(first) + sixteen(second) + nought(16)
		left := new(big.Int).Mod(target, prime())
		for _, s := range []string{nought(16), strings.Repeat("\xff", 16), pattern(16, 9)} {
			want := sixteen(new(big.Int).Add(left, bigOf(s)))
			wantTag(t, number16(1)+s, text, want)
		}
		// The same sum ahead of a further piece, which is reduced once more.
		after := text + number16(7)
		wantTag(t, number16(1)+nought(16), after, reference(number16(1)+nought(16), after))
	}
}

// lastPiece finds a piece of 16 bytes behind text by which the sum under r becomes target.
func lastPiece(r *big.Int, text string, target *big.Int) (string, bool) {
	back := new(big.Int).ModInverse(r, prime())
	if back == nil {
		return "", false
	}
	piece := back.Mul(back, target)
	piece.Sub(piece, referenceSum(r, text))
	piece.Mod(piece, prime())
	piece.Sub(piece, power(128))
	if piece.Sign() < 0 || piece.Cmp(power(128)) >= 0 {
		return "", false
	}
	return sixteen(piece), true
}

// The same under any r: products that are a small number, or one just below 2^130 - 5, or where a byte carries far.
func TestProductsAroundThePrime(t *testing.T) {
	r := rand.New(rand.NewSource(7))
	targets := []*big.Int{power(128), power(129), new(big.Int).Sub(power(128), big.NewInt(1)), new(big.Int).Sub(power(129), big.NewInt(1))}
	for d := int64(1); d <= 12; d++ {
		targets = append(targets, big.NewInt(d-1), new(big.Int).Sub(prime(), big.NewInt(d)))
	}
	found := 0
	for range 3000 {
		key := randomText(r, 16) + []string{nought(16), strings.Repeat("\xff", 16), number16(1)}[r.Intn(3)]
		target := targets[r.Intn(len(targets))]
		text := randomText(r, 16*r.Intn(4))
		piece, ok := lastPiece(clampedOf(key), text, target)
		if !ok {
			continue
		}
		found++
		want := sixteen(new(big.Int).Add(target, bigOf(key[16:])))
		wantTag(t, key, text+piece, want)
		wantTag(t, key, text+piece+"more", reference(key, text+piece+"more"))
	}
	if found < 100 {
		t.Errorf("only %d sums were tried", found)
	}
}

// Where every byte of r and of the text is as great as it can be, the digits of the sum are greatest, too.
func TestGreatestDigits(t *testing.T) {
	key := strings.Repeat("\xff", 32)
	for n := 1; n < 3000; n += 61 {
		text := strings.Repeat("\xff", n)
		wantTag(t, key, text, reference(key, text))
	}
}

func TestTwoPieces(t *testing.T) {
	key := pattern(32, 13)
	for _, n := range []int{0, 1, 15, 16, 17, 31, 32, 33, 48, 100} {
		text := pattern(n, 5)
		for k := 0; k <= n; k++ {
			x := begin(t, key)
			x.Write(text[:k])
			x.Write("")
			x.Write(text[k:])
			wantSum(t, fmt.Sprintf("%d bytes behind %d", n-k, k), x, reference(key, text))
		}
	}
}

func TestManyPieces(t *testing.T) {
	key := pattern(32, 13)
	text := pattern(300, 5)
	for k := 1; k <= 70; k++ {
		x := begin(t, key)
		for i := 0; i < len(text); i += k {
			x.Write(text[i:min(i+k, len(text))])
		}
		wantSum(t, fmt.Sprintf("pieces of %d bytes", k), x, reference(key, text))
	}
}

func TestSumChangesNothing(t *testing.T) {
	for _, key := range []string{pattern(32, 13), strings.Repeat("\xff", 32), number16(1) + nought(16)} {
		text := strings.Repeat("\xff", 40) + pattern(100, 9)
		x := begin(t, key)
		for n := range len(text) {
			for again := range 3 {
				wantSum(t, fmt.Sprintf("Sum %d behind %d bytes", again, n), x, reference(key, text[:n]))
			}
			x.Write(text[n : n+1])
		}
	}
}

// Many taggers live side by side under calls in a random order; each must go on telling the tag of its own text.
func TestTaggersSideBySide(t *testing.T) {
	r := rand.New(rand.NewSource(8))
	keys := make([]string, 4)
	texts := make([]string, 4)
	taggers := make([]*Tagger, 4)
	restart := func(i int, key string) {
		keys[i] = key
		texts[i] = ""
		taggers[i] = begin(t, key)
	}
	for i := range taggers {
		restart(i, pattern(32, 1))
	}
	for step := range 5000 {
		i := r.Intn(len(taggers))
		j := r.Intn(len(taggers))
		switch r.Intn(12) {
		case 0:
			restart(i, randomText(r, 32))
		case 1:
			// Two taggers under one key share nothing.
			restart(j, keys[i])
		case 2:
			c := *taggers[i]
			taggers[j] = &c
			keys[j] = keys[i]
			texts[j] = texts[i]
		case 3:
			taggers[i].Sum()
		default:
			piece := randomText(r, r.Intn(40))
			taggers[i].Write(piece)
			texts[i] += piece
		}
		for k := range taggers {
			if taggers[k].Sum() != reference(keys[k], texts[k]) {
				t.Fatalf("step %d: tagger %d with %d bytes", step, k, len(texts[k]))
			}
		}
	}
}

func FuzzAnyText(f *testing.F) {
	f.Add("", "", 0)
	f.Add(pattern(32, 1), "text", 2)
	f.Add(number16(1)+nought(16), "\xfb"+strings.Repeat("\xff", 15)+nought(32), 16)
	f.Add(strings.Repeat("\xff", 32), strings.Repeat("\xff", 64), -1)
	f.Add(pattern(33, 1), "é\U0010ffff\xff", 1<<62)
	f.Fuzz(func(t *testing.T, key string, text string, cut int) {
		x, e := Begin(key)
		tag, g := Tag(key, text)
		if len(key) != 32 {
			if e != api.ErrLen || g != api.ErrLen || x != nil || tag != "" {
				t.Errorf("a key of %d bytes: %d %d", len(key), e, g)
			}
			return
		}
		want := reference(key, text)
		if e != api.OK || g != api.OK || tag != want {
			t.Fatalf("%d %d %x, want %x", e, g, tag, want)
		}
		k := min(max(cut, 0), len(text))
		x.Write(text[:k])
		wantSum(t, "the first piece", x, reference(key, text[:k]))
		x.Write(text[k:])
		wantSum(t, "both pieces", x, want)
	})
}
