package vault

import (
	"fmt"
	"math"
	"math/rand"
	"slices"
	"strings"
	"testing"

	"strongbox/api"
	"strongbox/ground"
)

// all is more than any call gives a sink.
const all = 1 << 40

// openPlan is a plan that takes all of n calls: with it a sink counts them.
func openPlan(n int) []int {
	return slices.Repeat([]int{all}, n)
}

func newWriter(t *testing.T, masters []string, en *ground.Spring, sink *ground.Sink) *Writer {
	t.Helper()
	w, e := NewWriter(masters, en, sink)
	if e != api.OK || w == nil {
		t.Fatalf("NewWriter for %d: %d", len(masters), e)
	}
	return w
}

func wantWrite(t *testing.T, w *Writer, p string, n int, want api.Errno) {
	t.Helper()
	got, e := w.Write(p)
	if got != n || e != want {
		t.Errorf("Write of %d bytes: %d, %d, want %d, %d", len(p), got, e, n, want)
	}
}

func wantClose(t *testing.T, w *Writer, want api.Errno) {
	t.Helper()
	e := w.Close()
	if e != want {
		t.Errorf("Close: %d, want %d", e, want)
	}
}

func wantSink(t *testing.T, what string, sink *ground.Sink, got string, calls int) {
	t.Helper()
	if sink.Got() != got || sink.Calls() != calls {
		t.Errorf("%s: the sink has %d bytes by %d calls, want %d by %d", what, len(sink.Got()), sink.Calls(), len(got), calls)
	}
}

// wantEnded tries a writer that is closed, or whose sink has failed, again and again.
func wantEnded(t *testing.T, w *Writer, want api.Errno, sink *ground.Sink) {
	t.Helper()
	got := sink.Got()
	calls := sink.Calls()
	for range 3 {
		for _, p := range []string{"x", "", pattern(16, 3), pattern(17, 3), pattern(100, 3)} {
			wantWrite(t, w, p, 0, want)
		}
		wantClose(t, w, want)
	}
	wantSink(t, "behind the end", sink, got, calls)
}

func TestNewWriterErrors(t *testing.T) {
	for _, c := range allFaults() {
		for _, plan := range [][]int{{all, all, all}, {-1, all, all}, {0, all, all}, {all, -1, all}, {all, 15, all}} {
			en := ground.SpringOf(pattern(c.draws, 3))
			sink := ground.SinkOf(plan)
			w, e := NewWriter(c.masters, en, sink)
			want := c.want
			calls := 0
			if want == api.OK {
				calls = 2
				if plan[0] < all {
					calls = 1
				}
				if plan[0] < all || plan[1] < all {
					want = api.ErrSink
				}
			}
			if e != want || (w == nil) != (e != api.OK) {
				t.Errorf("%s, plan %v: NewWriter: %d, want %d", c.what, plan, e, want)
			}
			// A sink that is bad is not met ahead of the draws, and does not bring them back.
			if en.Left() != c.left || sink.Calls() != calls {
				t.Errorf("%s, plan %v: %d are left, %d calls; want %d, %d", c.what, plan, en.Left(), sink.Calls(), c.left, calls)
			}
		}
	}
}

// Each draw is one of 16 bytes: the first that the spring can't give is the end, and those ahead of it are gone.
func TestShortSprings(t *testing.T) {
	for masters := 1; masters <= 3; masters++ {
		need := 16 * (masters + 2)
		for n := range need + 40 {
			en := ground.SpringOf(pattern(n, 3))
			sink := ground.SinkOf(openPlan(5))
			w, e := NewWriter(mastersOf(masters), en, sink)
			if n < need {
				if e != api.ErrEntropy || w != nil || en.Left() != n%16 {
					t.Errorf("%d masters, %d bytes: %d, %d are left", masters, n, e, en.Left())
				}
				wantSink(t, "a short spring", sink, "", 0)
				continue
			}
			if e != api.OK || w == nil || en.Left() != n-need {
				t.Errorf("%d masters, %d bytes: %d, %d are left", masters, n, e, en.Left())
			}
		}
	}
}

func TestNewWriterGivesHeaderAndDraw(t *testing.T) {
	for masters := 1; masters <= 3; masters++ {
		draws := pattern(16*(masters+2), 7)
		p := referenceParts(t, mastersOf(masters), draws, "")
		sink := ground.SinkOf(openPlan(9))
		newWriter(t, mastersOf(masters), ground.SpringOf(draws), sink)
		wantSink(t, "begun", sink, p.header+p.draw, 2)
		// The header alone is the first call's: one that takes just as much has not failed.
		sink = ground.SinkOf([]int{len(p.header), 16, 0})
		newWriter(t, mastersOf(masters), ground.SpringOf(draws), sink)
		wantSink(t, "begun, with just enough", sink, p.header+p.draw, 2)
	}
}

func TestSinkThatFailsAtTheBeginning(t *testing.T) {
	for masters := 1; masters <= 3; masters++ {
		draws := pattern(16*(masters+2), 7)
		p := referenceParts(t, mastersOf(masters), draws, "")
		for k := -2; k < len(p.header); k++ {
			sink := ground.SinkOf([]int{k, all, all})
			w, e := NewWriter(mastersOf(masters), ground.SpringOf(draws), sink)
			if e != api.ErrSink || w != nil {
				t.Errorf("a sink that takes %d of the header: %d", k, e)
			}
			wantSink(t, "the header", sink, p.header[:max(k, 0)], 1)
		}
		for _, k := range []int{math.MinInt, -2, -1, 0, 1, 8, 15} {
			sink := ground.SinkOf([]int{all, k, all})
			w, e := NewWriter(mastersOf(masters), ground.SpringOf(draws), sink)
			if e != api.ErrSink || w != nil {
				t.Errorf("a sink that takes %d of the draw: %d", k, e)
			}
			wantSink(t, "the draw", sink, p.header+p.draw[:max(k, 0)], 2)
		}
	}
}

// chunksOut tells how many chunks have gone out when n bytes were taken: each that has a byte behind it.
func chunksOut(n int) int {
	return max(0, (n-1)/16)
}

// gotOf tells what the sink has when n bytes of the text were taken.
func gotOf(p parts, n int) string {
	return p.header + p.draw + strings.Join(p.chunks[:chunksOut(n)], "")
}

func TestPiecesOfEveryLength(t *testing.T) {
	for n := range 70 {
		text := pattern(n, 11)
		p := referenceParts(t, mastersOf(1), pattern(48, 7), text)
		for k := 1; k <= 70; k++ {
			sink := ground.SinkOf(openPlan(100))
			w := newWriter(t, mastersOf(1), ground.SpringOf(pattern(48, 7)), sink)
			for at := 0; at < n; at += k {
				piece := text[at:min(at+k, n)]
				wantWrite(t, w, piece, len(piece), api.OK)
				taken := at + len(piece)
				what := fmt.Sprintf("%d of %d bytes, in pieces of %d", taken, n, k)
				wantSink(t, what, sink, gotOf(p, taken), 2+chunksOut(taken))
				// Nothing has no byte behind a chunk.
				wantWrite(t, w, "", 0, api.OK)
				wantSink(t, what+", then nothing", sink, gotOf(p, taken), 2+chunksOut(taken))
			}
			wantClose(t, w, api.OK)
			wantSink(t, fmt.Sprintf("%d bytes, in pieces of %d, closed", n, k), sink, p.file(), 2+len(p.chunks))
			wantEnded(t, w, api.ErrClosed, sink)
		}
	}
}

func TestTwoPieces(t *testing.T) {
	for masters := 1; masters <= 3; masters++ {
		text := pattern(100, 11)
		draws := pattern(80, 7)
		p := referenceParts(t, mastersOf(masters), draws, text)
		for k := 0; k <= len(text); k++ {
			sink := ground.SinkOf(openPlan(100))
			w := newWriter(t, mastersOf(masters), ground.SpringOf(draws), sink)
			wantWrite(t, w, text[:k], k, api.OK)
			wantSink(t, fmt.Sprintf("%d bytes", k), sink, gotOf(p, k), 2+chunksOut(k))
			wantWrite(t, w, text[k:], len(text)-k, api.OK)
			wantSink(t, fmt.Sprintf("%d bytes, then the rest", k), sink, gotOf(p, 100), 8)
			wantClose(t, w, api.OK)
			wantSink(t, fmt.Sprintf("%d bytes, then the rest, closed", k), sink, p.file(), 9)
		}
	}
}

// The text is of 100 bytes: the sink is called nine times, twice at the beginning and once by Close.
func TestSinkThatFailsAtEachCall(t *testing.T) {
	text := pattern(100, 11)
	p := referenceParts(t, mastersOf(1), pattern(48, 7), text)
	for call := 2; call < 9; call++ {
		box := p.chunks[call-2]
		for _, takes := range []int{math.MinInt, -1, 0, 1, len(box) / 2, len(box) - 1} {
			for k := 1; k <= 101; k++ {
				sink := ground.SinkOf(append(openPlan(call), takes, all, all, all, all, all, all, all))
				w := newWriter(t, mastersOf(1), ground.SpringOf(pattern(48, 7)), sink)
				// The chunk that does not go out is full; the byte behind it is not taken.
				stop := 16 * (call - 1)
				failed := false
				for at := 0; at < len(text) && !failed; at += k {
					end := min(at+k, len(text))
					failed = end > stop
					if failed {
						wantWrite(t, w, text[at:end], stop-at, api.ErrSink)
					} else {
						wantWrite(t, w, text[at:end], end-at, api.OK)
					}
				}
				if call == 8 {
					wantClose(t, w, api.ErrSink)
				}
				got := p.header + p.draw + strings.Join(p.chunks[:call-2], "") + box[:max(takes, 0)]
				wantSink(t, fmt.Sprintf("call %d takes %d, pieces of %d", call, takes, k), sink, got, call+1)
				wantEnded(t, w, api.ErrSink, sink)
			}
		}
	}
}

func TestSinkThatTakesJustEnough(t *testing.T) {
	text := pattern(100, 11)
	p := referenceParts(t, mastersOf(2), pattern(64, 7), text)
	plan := []int{len(p.header), 16}
	for _, box := range p.chunks {
		plan = append(plan, len(box))
	}
	sink := ground.SinkOf(append(plan, -1))
	w := newWriter(t, mastersOf(2), ground.SpringOf(pattern(64, 7)), sink)
	wantWrite(t, w, text, 100, api.OK)
	wantClose(t, w, api.OK)
	wantSink(t, "just enough", sink, p.file(), len(plan))
	wantEnded(t, w, api.ErrClosed, sink)
}

// The document's example.
func TestKnownFailure(t *testing.T) {
	sink := ground.SinkOf([]int{all, all, -1})
	w := newWriter(t, mastersOf(1), ground.SpringOf(pattern(48, 7)), sink)
	wantWrite(t, w, pattern(100, 11), 16, api.ErrSink)
	wantWrite(t, w, "x", 0, api.ErrSink)
	wantClose(t, w, api.ErrSink)
}

func TestCloseThatFailsDoesNotClose(t *testing.T) {
	for _, n := range []int{0, 1, 15, 16} {
		for _, takes := range []int{-1, 0, n + 15} {
			sink := ground.SinkOf([]int{all, all, takes, all, all})
			w := newWriter(t, mastersOf(1), ground.SpringOf(pattern(48, 7)), sink)
			wantWrite(t, w, pattern(n, 11), n, api.OK)
			wantClose(t, w, api.ErrSink)
			wantEnded(t, w, api.ErrSink, sink)
		}
	}
}

func TestWritersThatShareASpring(t *testing.T) {
	draws := pattern(144, 3)
	en := ground.SpringOf(draws)
	one := ground.SinkOf(nil)
	two := ground.SinkOf(nil)
	a := newWriter(t, mastersOf(1), en, one)
	b := newWriter(t, mastersOf(3), en, two)
	if en.Left() != 16 {
		t.Errorf("%d are left", en.Left())
	}
	// The third writer's first draw is there, but not its second: the first is gone.
	c, e := NewWriter(mastersOf(2), en, ground.SinkOf(nil))
	if e != api.ErrEntropy || c != nil || en.Left() != 0 {
		t.Errorf("a third writer: %d, %d are left", e, en.Left())
	}
	text := pattern(90, 11)
	for i := range len(text) {
		wantWrite(t, a, text[i:i+1], 1, api.OK)
		wantWrite(t, b, text[89-i:90-i], 1, api.OK)
	}
	back := []byte(text)
	slices.Reverse(back)
	wantClose(t, b, api.OK)
	wantWrite(t, a, "more", 4, api.OK)
	wantClose(t, a, api.OK)
	if one.Got() != referenceParts(t, mastersOf(1), draws[:48], text+"more").file() {
		t.Errorf("the first file is another")
	}
	if two.Got() != referenceParts(t, mastersOf(3), draws[48:128], string(back)).file() {
		t.Errorf("the second file is another")
	}
}

func TestWritersThatShareASink(t *testing.T) {
	p := referenceParts(t, mastersOf(1), pattern(48, 7), pattern(33, 11))
	q := referenceParts(t, mastersOf(2), pattern(64, 9), pattern(17, 13))
	sink := ground.SinkOf([]int{all, all, all, all, all, all, 5, all, all})
	a := newWriter(t, mastersOf(1), ground.SpringOf(pattern(48, 7)), sink)
	b := newWriter(t, mastersOf(2), ground.SpringOf(pattern(64, 9)), sink)
	wantWrite(t, a, pattern(33, 11)[:17], 17, api.OK)
	wantWrite(t, b, pattern(17, 13), 17, api.OK)
	got := p.header + p.draw + q.header + q.draw + p.chunks[0] + q.chunks[0]
	wantSink(t, "both", sink, got, 6)
	// The sink fails the first one; the other does not know of that.
	wantWrite(t, a, pattern(33, 11)[17:], 15, api.ErrSink)
	wantClose(t, b, api.OK)
	wantWrite(t, a, "x", 0, api.ErrSink)
	wantClose(t, a, api.ErrSink)
	wantClose(t, b, api.ErrClosed)
	wantSink(t, "at the end", sink, got+p.chunks[1][:5]+q.chunks[1], 8)
}

// model is a writer once more: it keeps the whole text and reckons from its length what must have gone out.
type model struct {
	key    string
	text   string
	end    api.Errno
	sink   *ground.Sink
	number int
}

func newModel(t *testing.T, masters []string, en *ground.Spring, sink *ground.Sink) (*model, api.Errno) {
	t.Helper()
	if len(masters) < 1 || len(masters) > 3 {
		return nil, api.ErrArg
	}
	for _, m := range masters {
		if len(m) != 32 {
			return nil, api.ErrLen
		}
	}
	draws := ""
	for range len(masters) + 2 {
		draw, e := en.Draw(16)
		if e != api.OK {
			return nil, e
		}
		draws += draw
	}
	p := referenceParts(t, masters, draws, "")
	m := &model{key: p.key, sink: sink}
	if !m.give(p.header) || !m.give(p.draw) {
		return nil, api.ErrSink
	}
	return m, api.OK
}

func (m *model) give(s string) bool {
	n, e := m.sink.Write(s)
	if e != api.OK || n != len(s) {
		m.end = api.ErrSink
		return false
	}
	return true
}

func (m *model) write(t *testing.T, p string) (int, api.Errno) {
	if m.end != api.OK {
		return 0, m.end
	}
	before := len(m.text)
	m.text += p
	for m.number < chunksOut(len(m.text)) {
		at := 16 * m.number
		if !m.give(sealed(t, m.key, referenceNonce(m.number, false), m.text[at:at+16])) {
			return at + 16 - before, m.end
		}
		m.number++
	}
	return len(p), api.OK
}

func (m *model) close(t *testing.T) api.Errno {
	if m.end != api.OK {
		return m.end
	}
	if !m.give(sealed(t, m.key, referenceNonce(m.number, true), m.text[16*m.number:])) {
		return m.end
	}
	m.end = api.ErrClosed
	return api.OK
}

// grounds are springs and sinks, each twice: for writers and for models.
type grounds struct {
	springs, modelSprings []*ground.Spring
	sinks, modelSinks     []*ground.Sink
}

func randomPlan(r *rand.Rand) []int {
	plan := []int{}
	for range r.Intn(40) {
		k := all
		switch r.Intn(12) {
		case 0:
			k = -1 - r.Intn(3)
		case 1:
			k = r.Intn(40)
		case 2:
			k = 32
		}
		plan = append(plan, k)
	}
	return plan
}

func randomGrounds(r *rand.Rand) grounds {
	g := grounds{}
	for range 3 {
		draws := randomText(r, r.Intn(1000))
		g.springs = append(g.springs, ground.SpringOf(draws))
		g.modelSprings = append(g.modelSprings, ground.SpringOf(draws))
		plan := randomPlan(r)
		g.sinks = append(g.sinks, ground.SinkOf(plan))
		g.modelSinks = append(g.modelSinks, ground.SinkOf(plan))
	}
	return g
}

func (g grounds) check(t *testing.T) {
	t.Helper()
	for i := range g.sinks {
		if g.springs[i].Left() != g.modelSprings[i].Left() {
			t.Fatalf("spring %d: %d are left, want %d", i, g.springs[i].Left(), g.modelSprings[i].Left())
		}
		if g.sinks[i].Calls() != g.modelSinks[i].Calls() || g.sinks[i].Got() != g.modelSinks[i].Got() {
			t.Fatalf("sink %d: %d bytes by %d calls, want %d by %d", i, len(g.sinks[i].Got()), g.sinks[i].Calls(), len(g.modelSinks[i].Got()), g.modelSinks[i].Calls())
		}
	}
}

func randomMasters(r *rand.Rand) []string {
	masters := []string{}
	for range r.Intn(5) {
		n := 32
		if r.Intn(20) == 0 {
			n = r.Intn(70)
		}
		masters = append(masters, randomText(r, n))
	}
	return masters
}

// Many writers live side by side, on springs and sinks that they share, under calls in a random order.
func TestWritersSideBySide(t *testing.T) {
	r := rand.New(rand.NewSource(3))
	for range 300 {
		g := randomGrounds(r)
		writers := []*Writer{}
		models := []*model{}
		for range 60 {
			if len(writers) == 0 || r.Intn(8) == 0 {
				masters := randomMasters(r)
				i := r.Intn(3)
				j := r.Intn(3)
				w, e := NewWriter(masters, g.springs[i], g.sinks[j])
				m, want := newModel(t, masters, g.modelSprings[i], g.modelSinks[j])
				g.check(t)
				if e != want || (w == nil) != (e != api.OK) {
					t.Fatalf("NewWriter: %d, want %d", e, want)
				}
				if e == api.OK {
					writers = append(writers, w)
					models = append(models, m)
				}
				continue
			}
			i := r.Intn(len(writers))
			if r.Intn(8) == 0 {
				e := writers[i].Close()
				want := models[i].close(t)
				if e != want {
					t.Fatalf("Close: %d, want %d", e, want)
				}
			} else {
				p := randomText(r, r.Intn(50))
				n, e := writers[i].Write(p)
				wantN, want := models[i].write(t, p)
				if n != wantN || e != want {
					t.Fatalf("Write of %d bytes: %d, %d, want %d, %d", len(p), n, e, wantN, want)
				}
			}
			g.check(t)
		}
	}
}

// A writer that is copied goes on as two, which share the sink alone.
func TestCopiedWriter(t *testing.T) {
	p := referenceParts(t, mastersOf(1), pattern(48, 7), pattern(40, 11))
	q := referenceParts(t, mastersOf(1), pattern(48, 7), pattern(10, 11)+pattern(3, 5))
	sink := ground.SinkOf(openPlan(20))
	w := newWriter(t, mastersOf(1), ground.SpringOf(pattern(48, 7)), sink)
	wantWrite(t, w, pattern(40, 11)[:10], 10, api.OK)
	c := *w
	wantWrite(t, w, pattern(40, 11)[10:], 30, api.OK)
	wantWrite(t, &c, pattern(3, 5), 3, api.OK)
	wantClose(t, &c, api.OK)
	wantClose(t, w, api.OK)
	wantSink(t, "both", sink, p.header+p.draw+p.chunks[0]+p.chunks[1]+q.chunks[0]+p.chunks[2], 6)
}

func FuzzWriter(f *testing.F) {
	f.Add(pattern(80, 7), 1, "", 0, 0, 0)
	f.Add(pattern(80, 7), 3, pattern(33, 11), 16, 17, -1)
	f.Add(pattern(47, 7), 1, pattern(33, 11), 2, all, 5)
	f.Add(pattern(80, 7), 2, "é\U0010ffff\xff", math.MinInt, math.MaxInt, math.MinInt)
	f.Fuzz(func(t *testing.T, draws string, n int, text string, cut int, first int, second int) {
		masters := mastersOf(min(max(n, 0), 5))
		plan := []int{all, all, first, second, all, first}
		if cut < 0 {
			plan = plan[2:]
		}
		k := min(max(cut, 0), len(text))
		g := grounds{[]*ground.Spring{ground.SpringOf(draws)}, []*ground.Spring{ground.SpringOf(draws)}, []*ground.Sink{ground.SinkOf(plan)}, []*ground.Sink{ground.SinkOf(plan)}}
		w, e := NewWriter(masters, g.springs[0], g.sinks[0])
		m, want := newModel(t, masters, g.modelSprings[0], g.modelSinks[0])
		g.check(t)
		if e != want || (w == nil) != (e != api.OK) {
			t.Fatalf("NewWriter: %d, want %d", e, want)
		}
		if e != api.OK {
			return
		}
		for _, p := range []string{text[:k], text[k:], "", "x"} {
			wantN, want := m.write(t, p)
			wantWrite(t, w, p, wantN, want)
			g.check(t)
		}
		for range 2 {
			wantClose(t, w, m.close(t))
			wantN, want := m.write(t, text)
			wantWrite(t, w, text, wantN, want)
			g.check(t)
		}
	})
}
