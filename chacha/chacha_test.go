package chacha

import (
	"crypto/sha256"
	"encoding/binary"
	"encoding/hex"
	"fmt"
	"math"
	"math/bits"
	"math/rand"
	"strings"
	"testing"

	"strongbox/api"
)

const lastBlock = 1<<32 - 1

func pattern(n int, step int) string {
	b := make([]byte, n)
	for i := range b {
		b[i] = byte(i*step + i/256 + step)
	}
	return string(b)
}

func bytesOf(t *testing.T, s string) string {
	t.Helper()
	b, err := hex.DecodeString(s)
	if err != nil {
		t.Fatal(err)
	}
	return string(b)
}

func randomText(r *rand.Rand, n int) string {
	b := make([]byte, n)
	r.Read(b)
	return string(b)
}

func xor(a string, b string) string {
	out := []byte(a)
	for i := range out {
		out[i] ^= b[i]
	}
	return string(out)
}

func zeros(n int) string { return strings.Repeat("\x00", n) }

// referenceBlock is the cipher written once more, by rows that are shifted instead of by the document's list of places.
func referenceBlock(key string, nonce string, n uint32) string {
	var first [4][4]uint32
	all := []byte("expand 32-byte k" + key + string(binary.LittleEndian.AppendUint32(nil, n)) + nonce)
	for i := range 16 {
		first[i/4][i%4] = binary.LittleEndian.Uint32(all[4*i:])
	}
	x := first
	for round := range 20 {
		shift := round % 2
		for i := range 4 {
			a, b, c, d := &x[0][i], &x[1][(i+shift)%4], &x[2][(i+2*shift)%4], &x[3][(i+3*shift)%4]
			*a += *b
			*d = bits.RotateLeft32(*d^*a, 16)
			*c += *d
			*b = bits.RotateLeft32(*b^*c, 12)
			*a += *b
			*d = bits.RotateLeft32(*d^*a, 8)
			*c += *d
			*b = bits.RotateLeft32(*b^*c, 7)
		}
	}
	out := []byte{}
	for i := range 16 {
		out = binary.LittleEndian.AppendUint32(out, x[i/4][i%4]+first[i/4][i%4])
	}
	return string(out)
}

// referenceStream gives the bytes from place at on of the stream from block n on.
func referenceStream(key string, nonce string, n int, at int, length int) string {
	n += at / 64
	at %= 64
	out := []byte{}
	for len(out) < at+length {
		out = append(out, referenceBlock(key, nonce, uint32(n))...)
		n++
	}
	return string(out[at : at+length])
}

func begin(t *testing.T, key string, nonce string, n int) *Stream {
	t.Helper()
	x, e := Begin(key, nonce, n)
	if e != api.OK || x == nil {
		t.Fatalf("Begin at block %d: %d", n, e)
	}
	return x
}

func wantXOR(t *testing.T, what string, x *Stream, text string, want string) {
	t.Helper()
	got, e := x.XOR(text)
	if e != api.OK || got != want {
		t.Errorf("%s: %d %x, want %x", what, e, got, want)
	}
}

func wantSpent(t *testing.T, what string, x *Stream, length int) {
	t.Helper()
	got, e := x.XOR(strings.Repeat("x", length))
	if e != api.ErrSpent || got != "" {
		t.Errorf("%s, %d bytes: %d, %d bytes", what, length, e, len(got))
	}
}

// The blocks of RFC 8439, 2.3.2 and A.1.
func TestKnownBlocks(t *testing.T) {
	for i, c := range []struct {
		key, nonce string
		n          int
		want       string
	}{
		{"000102030405060708090a0b0c0d0e0f101112131415161718191a1b1c1d1e1f", "000000090000004a00000000", 1, "10f1e7e4d13b5915500fdd1fa32071c4c7d1f4c733c068030422aa9ac3d46c4ed2826446079faa0914c2d705d98b02a2b5129cd1de164eb9cbd083e8a2503c4e"},
		{strings.Repeat("00", 32), strings.Repeat("00", 12), 0, "76b8e0ada0f13d90405d6ae55386bd28bdd219b8a08ded1aa836efcc8b770dc7da41597c5157488d7724e03fb8d84a376a43b8f41518a11cc387b669b2ee6586"},
		{strings.Repeat("00", 32), strings.Repeat("00", 12), 1, "9f07e7be5551387a98ba977c732d080dcb0f29a048e3656912c6533e32ee7aed29b721769ce64e43d57133b074d839d531ed1f28510afb45ace10a1f4b794d6f"},
		{strings.Repeat("00", 31) + "01", strings.Repeat("00", 12), 1, "3aeb5224ecf849929b9d828db1ced4dd832025e8018b8160b82284f3c949aa5a8eca00bbb4a73bdad192b5c42f73f2fd4e273644c8b36125a64addeb006c13a0"},
		{"00ff" + strings.Repeat("00", 30), strings.Repeat("00", 12), 2, "72d54dfbf12ec44b362692df94137f328fea8da73990265ec1bbbea1ae9af0ca13b25aa26cb4a648cb9b9d1be65b2c0924a66c54d545ec1b7374f4872e99f096"},
		{strings.Repeat("00", 32), strings.Repeat("00", 11) + "02", 0, "c2c64d378cd536374ae204b9ef933fcd1a8b2288b3dfa49672ab765b54ee27c78a970e0e955c14f3a88e741b97c286f75f8fc299e8148362fa198a39531bed6d"},
	} {
		got, e := Block(bytesOf(t, c.key), bytesOf(t, c.nonce), c.n)
		if e != api.OK || got != bytesOf(t, c.want) {
			t.Errorf("case %d: %d %x, want %s", i, e, got, c.want)
		}
	}
}

// The ciphered text of RFC 8439, 2.4.2.
func TestKnownText(t *testing.T) {
	key := bytesOf(t, "000102030405060708090a0b0c0d0e0f101112131415161718191a1b1c1d1e1f")
	nonce := bytesOf(t, "000000000000004a00000000")
	text := "Ladies and Gentlemen of the class of '99: If I could offer you only one tip for the future, sunscreen would be it."
	want := bytesOf(t, "6e2e359a2568f98041ba0728dd0d6981e97e7aec1d4360c20a27afccfd9fae0bf91b65c5524733ab8f593dabcd62b3571639d624e65152ab8f530c359f0861d807ca0dbf500d6a6156a38e088a22b65e52bc514d16ccf806818ce91ab77937365af90bbf74a35be6b40b8eedf2785e42874d")
	wantXOR(t, "the text", begin(t, key, nonce, 1), text, want)
	wantXOR(t, "the ciphered text", begin(t, key, nonce, 1), want, text)
}

// Hashes of what another program's ChaCha20 gives, where the block's number carries from byte to byte and at its end.
func TestKnownStreams(t *testing.T) {
	for _, c := range []struct {
		n      int
		length int
		want   string
	}{
		{0, 192, "8b55bb7342e05bcb7addd171c0b46c78f41524cdc6aedb71ef9e71c7c6a560ad"},
		{1, 192, "3d07501e621a5ae705ed731f4c167039b58f3330922bff6b03d0205b645e2a08"},
		{255, 192, "4550ef211e9919e90025b4e390a49da96ea640d225f0c1ac7fcf3847a3e6bfa8"},
		{256, 192, "ef5aefce7ed81a9019fe44c074ef1f0dde03b400322b8591e018dafbd4a7f129"},
		{65535, 192, "de16badf065525d764dafc2df59e996fbafbe2cd44b8d6810548601041fac341"},
		{1<<24 - 1, 192, "fce72eaefd7f8ea561af01d3b32faf61c640fb30233982212eb1e99cf02657df"},
		{1<<31 - 1, 192, "10b197702ade20ba2370de30e77643f4977f1437b3de0ee1d5ba2d0255067a39"},
		{1 << 31, 192, "2a92218dc98440db178874c0f011cd2f313b00ba4c71f23ee860f8ba742873d4"},
		{1<<32 - 3, 128, "cad75481b059a9b9c135299aaa9e72bba5fdd8e22974ee294b2ecc247c655cc8"},
	} {
		got, e := begin(t, pattern(32, 3), pattern(12, 5), c.n).XOR(zeros(c.length))
		hash := fmt.Sprintf("%x", sha256.Sum256([]byte(got)))
		if e != api.OK || hash != c.want {
			t.Errorf("from block %d on: %d %s, want %s", c.n, e, hash, c.want)
		}
	}
}

func TestBlocks(t *testing.T) {
	r := rand.New(rand.NewSource(3))
	numbers := []int{0, 1, 2, 127, 128, 255, 256, 65535, 65536, 1<<24 - 1, 1 << 24, 1<<31 - 1, 1 << 31, 1<<31 + 1, lastBlock - 1, lastBlock}
	for range 300 {
		numbers = append(numbers, r.Intn(lastBlock))
	}
	for _, n := range numbers {
		for _, c := range [][2]string{
			{zeros(32), zeros(12)},
			{strings.Repeat("\xff", 32), strings.Repeat("\xff", 12)},
			{randomText(r, 32), randomText(r, 12)},
		} {
			got, e := Block(c[0], c[1], n)
			if e != api.OK || got != referenceBlock(c[0], c[1], uint32(n)) {
				t.Errorf("block %d: %d %x", n, e, got)
			}
		}
	}
}

// Each bit of key, nonce and number stands in a place of its own.
func TestEachBitCounts(t *testing.T) {
	seen := map[string]string{}
	try := func(what string, key []byte, nonce []byte, n int) {
		got, e := Block(string(key), string(nonce), n)
		if e != api.OK || got != referenceBlock(string(key), string(nonce), uint32(n)) {
			t.Errorf("%s: %d %x", what, e, got)
		}
		if seen[got] != "" {
			t.Errorf("%s gives the block of %s", what, seen[got])
		}
		seen[got] = what
	}
	try("nothing", make([]byte, 32), make([]byte, 12), 0)
	for bit := range 256 {
		key := make([]byte, 32)
		key[bit/8] = 1 << (bit % 8)
		try(fmt.Sprintf("bit %d of the key", bit), key, make([]byte, 12), 0)
	}
	for bit := range 96 {
		nonce := make([]byte, 12)
		nonce[bit/8] = 1 << (bit % 8)
		try(fmt.Sprintf("bit %d of the nonce", bit), make([]byte, 32), nonce, 0)
	}
	for bit := range 32 {
		try(fmt.Sprintf("bit %d of the number", bit), make([]byte, 32), make([]byte, 12), 1<<bit)
	}
}

func wantError(t *testing.T, key string, nonce string, n int, want api.Errno) {
	t.Helper()
	what := fmt.Sprintf("a key of %d bytes, a nonce of %d, block %d", len(key), len(nonce), n)
	x, e := Begin(key, nonce, n)
	if e != want || (x == nil) != (want != api.OK) {
		t.Errorf("Begin, %s: %d, want %d", what, e, want)
	}
	block, e := Block(key, nonce, n)
	if e != want || (want == api.OK && len(block) != 64) || (want != api.OK && block != "") {
		t.Errorf("Block, %s: %d, %d bytes, want %d", what, e, len(block), want)
	}
}

func wrongNumbers() []int {
	return []int{-1, -2, -64, -1 << 31, -1 << 32, 1 << 32, 1<<32 + 1, 1 << 33, 1 << 38, 1 << 58, 1 << 62, math.MaxInt, math.MaxInt - 1, math.MinInt, math.MinInt + 1}
}

func TestWrongLengths(t *testing.T) {
	numbers := append([]int{0, 1, lastBlock}, wrongNumbers()...)
	for _, n := range numbers {
		for length := range 100 {
			if length != 32 {
				wantError(t, pattern(length, 3), pattern(12, 5), n, api.ErrLen)
			}
			if length != 12 {
				wantError(t, pattern(32, 3), pattern(length, 5), n, api.ErrLen)
			}
			if length != 32 && length != 12 {
				wantError(t, pattern(length, 3), pattern(length, 5), n, api.ErrLen)
			}
		}
		// A key and a nonce in each other's place, or as long as they should be only together.
		wantError(t, pattern(12, 3), pattern(32, 5), n, api.ErrLen)
		wantError(t, pattern(31, 3), pattern(13, 5), n, api.ErrLen)
		wantError(t, pattern(33, 3), pattern(11, 5), n, api.ErrLen)
		wantError(t, pattern(44, 3), "", n, api.ErrLen)
	}
}

func TestWrongNumbers(t *testing.T) {
	for _, n := range wrongNumbers() {
		wantError(t, pattern(32, 3), pattern(12, 5), n, api.ErrArg)
	}
	for _, n := range []int{0, 1, 1 << 31, lastBlock - 1, lastBlock} {
		wantError(t, pattern(32, 3), pattern(12, 5), n, api.OK)
	}
}

func TestStreamIsItsBlocks(t *testing.T) {
	key := pattern(32, 7)
	nonce := pattern(12, 9)
	for _, n := range []int{0, 1, 255, 1<<31 - 2, lastBlock - 4} {
		want := ""
		for k := range 5 {
			block, e := Block(key, nonce, n+k)
			if e != api.OK {
				t.Fatalf("block %d: %d", n+k, e)
			}
			want += block
		}
		for length := 0; length <= len(want); length++ {
			wantXOR(t, fmt.Sprintf("%d bytes from block %d on", length, n), begin(t, key, nonce, n), zeros(length), want[:length])
		}
	}
}

func TestTwoPieces(t *testing.T) {
	key := pattern(32, 7)
	nonce := pattern(12, 9)
	text := pattern(200, 11)
	want := xor(text, referenceStream(key, nonce, 6, 0, 200))
	for k := 0; k <= len(text); k++ {
		x := begin(t, key, nonce, 6)
		wantXOR(t, "nothing at the beginning", x, "", "")
		wantXOR(t, fmt.Sprintf("the first %d bytes", k), x, text[:k], want[:k])
		wantXOR(t, fmt.Sprintf("nothing behind %d bytes", k), x, "", "")
		wantXOR(t, fmt.Sprintf("the bytes behind %d", k), x, text[k:], want[k:])
		wantXOR(t, "nothing at the end", x, "", "")
	}
}

func TestManyPieces(t *testing.T) {
	key := pattern(32, 7)
	nonce := pattern(12, 9)
	text := pattern(700, 11)
	want := xor(text, referenceStream(key, nonce, 2, 0, 700))
	for k := 1; k <= 150; k++ {
		x := begin(t, key, nonce, 2)
		for i := 0; i < len(text); i += k {
			end := min(i+k, len(text))
			wantXOR(t, fmt.Sprintf("pieces of %d bytes, at %d", k, i), x, text[i:end], want[i:end])
		}
	}
}

func TestStreamTwiceGivesTheText(t *testing.T) {
	r := rand.New(rand.NewSource(4))
	for length := range 200 {
		key := randomText(r, 32)
		nonce := randomText(r, 12)
		n := r.Intn(lastBlock - 4)
		text := randomText(r, length)
		ciphered, e := begin(t, key, nonce, n).XOR(text)
		if e != api.OK {
			t.Errorf("%d bytes: %d", length, e)
		}
		wantXOR(t, fmt.Sprintf("%d bytes, ciphered twice", length), begin(t, key, nonce, n), ciphered, text)
	}
}

// For streams of one to three blocks, and at every place in them: too much is refused and uses nothing, and the rest is there to its last byte.
func TestSpent(t *testing.T) {
	key := pattern(32, 7)
	nonce := pattern(12, 9)
	for blocks := 1; blocks <= 3; blocks++ {
		n := lastBlock - blocks + 1
		whole := 64 * blocks
		stream := referenceStream(key, nonce, n, 0, whole)
		for used := 0; used <= whole; used++ {
			x := begin(t, key, nonce, n)
			what := fmt.Sprintf("behind %d of %d bytes", used, whole)
			wantXOR(t, what, x, zeros(used), stream[:used])
			left := whole - used
			for _, more := range []int{1, 2, 63, 64, 65, 1000} {
				wantSpent(t, what, x, left+more)
			}
			wantXOR(t, what+", nothing", x, "", "")
			if left > 0 {
				wantXOR(t, what+", all but one", x, zeros(left-1), stream[used:whole-1])
				wantSpent(t, what+", one left", x, 2)
				wantXOR(t, what+", the last one", x, zeros(1), stream[whole-1:])
			}
			for _, more := range []int{1, 2, 64, 128, 1000} {
				wantSpent(t, what+", then the rest", x, more)
			}
			wantXOR(t, what+", then the rest, nothing", x, "", "")
		}
		x := begin(t, key, nonce, n)
		wantSpent(t, "at the beginning", x, whole+1)
		wantXOR(t, "all at once", x, zeros(whole), stream)
		wantSpent(t, "behind all", x, 1)
	}
}

func TestStreamFromBlockNoughtIsNotSpentSoon(t *testing.T) {
	key := pattern(32, 7)
	nonce := pattern(12, 9)
	length := 1<<22 + 100
	x := begin(t, key, nonce, 0)
	wantXOR(t, "the first bytes", x, zeros(10), referenceStream(key, nonce, 0, 0, 10))
	got, e := x.XOR(zeros(length))
	if e != api.OK || got != referenceStream(key, nonce, 0, 10, length) {
		t.Errorf("%d bytes: %d", length, e)
	}
	wantXOR(t, "the next bytes", x, zeros(70), referenceStream(key, nonce, 0, 10+length, 70))
}

// model is what the test knows of a stream.
type model struct {
	key, nonce string
	n, used    int
}

func (m model) left() int { return (lastBlock-m.n+1)*64 - m.used }

// Many streams live side by side under calls in a random order; each must go on with its own bytes.
func TestStreamsSideBySide(t *testing.T) {
	r := rand.New(rand.NewSource(5))
	streams := make([]*Stream, 4)
	models := make([]model, 4)
	restart := func(i int, key string, nonce string, n int) {
		streams[i] = begin(t, key, nonce, n)
		models[i] = model{key, nonce, n, 0}
	}
	for i := range streams {
		restart(i, pattern(32, 1), pattern(12, 1), 0)
	}
	for step := range 20000 {
		i := r.Intn(len(streams))
		j := r.Intn(len(streams))
		switch r.Intn(12) {
		case 0:
			restart(i, randomText(r, 32), randomText(r, 12), r.Intn(lastBlock+1))
		case 1:
			restart(i, randomText(r, 32), randomText(r, 12), lastBlock-r.Intn(5))
		case 2:
			// Two streams under one key and nonce share nothing.
			restart(j, models[i].key, models[i].nonce, models[i].n)
		case 3:
			c := *streams[i]
			streams[j] = &c
			models[j] = models[i]
		default:
			text := randomText(r, r.Intn(150))
			got, e := streams[i].XOR(text)
			if len(text) > models[i].left() {
				if e != api.ErrSpent || got != "" {
					t.Fatalf("step %d: %d, %d bytes, where %d of %d are left", step, e, len(got), models[i].left(), len(text))
				}
				continue
			}
			want := xor(text, referenceStream(models[i].key, models[i].nonce, models[i].n, models[i].used, len(text)))
			if e != api.OK || got != want {
				t.Fatalf("step %d: %d %x, want %x", step, e, got, want)
			}
			models[i].used += len(text)
		}
	}
}

func FuzzAnyStream(f *testing.F) {
	f.Add("", "", 0, "", 0)
	f.Add(pattern(32, 1), pattern(12, 1), 0, "text", 2)
	f.Add(pattern(32, 1), pattern(12, 1), lastBlock, pattern(64, 3), 63)
	f.Add(pattern(32, 1), pattern(12, 1), lastBlock, pattern(65, 3), 1)
	f.Add(pattern(32, 1), pattern(12, 1), lastBlock-1, pattern(129, 3), 64)
	f.Add(pattern(32, 1), pattern(12, 1), -1, "text", -1)
	f.Add(pattern(31, 1), pattern(13, 1), math.MinInt, "é\U0010ffff\xff", math.MaxInt)
	f.Fuzz(func(t *testing.T, key string, nonce string, n int, text string, cut int) {
		want := api.OK
		if n < 0 || n > lastBlock {
			want = api.ErrArg
		}
		if len(key) != 32 || len(nonce) != 12 {
			want = api.ErrLen
		}
		wantError(t, key, nonce, n, want)
		if want != api.OK {
			return
		}
		x := begin(t, key, nonce, n)
		k := min(max(cut, 0), len(text))
		m := model{key, nonce, n, 0}
		for _, piece := range []string{text[:k], text[k:], text[:k], "x"} {
			if len(piece) > m.left() {
				wantSpent(t, "too much", x, len(piece))
				continue
			}
			wantXOR(t, "a piece", x, piece, xor(piece, referenceStream(key, nonce, n, m.used, len(piece))))
			m.used += len(piece)
		}
	})
}
