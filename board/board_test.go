package board_test

import (
	"iter"
	"math"
	"math/rand"
	"reflect"
	"slices"
	"testing"

	"undertow/api"
	"undertow/board"
)

// The calls with the types that the chapter lists.
var (
	_ func(int) (*board.Board, api.Errno)           = board.New
	_ func(*board.Board, int) api.Errno             = (*board.Board).Sent
	_ func(*board.Board, int) (int, api.Errno)      = (*board.Board).Ack
	_ func(*board.Board, api.Span) (int, api.Errno) = (*board.Board).Sack
	_ func(*board.Board) int                        = (*board.Board).Una
	_ func(*board.Board) int                        = (*board.Board).Nxt
	_ func(*board.Board) int                        = (*board.Board).High
	_ func(*board.Board) int                        = (*board.Board).Bytes
	_ func(*board.Board, api.Span) int              = (*board.Board).Within
	_ func(*board.Board, api.Span) bool             = (*board.Board).Has
	_ func(*board.Board) iter.Seq[api.Span]         = (*board.Board).All
	_ func(*board.Board) iter.Seq[api.Span]         = (*board.Board).Holes
	_ func(*board.Board) *board.Board               = (*board.Board).Clone
	_ func(*board.Board, *board.Board) bool         = (*board.Board).Same
)

// to is a span.
func to(from, to int) api.Span {
	return api.Span{From: from, To: to}
}

// bad are spans that may not be.
func bad() []api.Span {
	return []api.Span{
		to(-1, 3), to(-1, -1), to(-5, -2), to(3, 2), to(5, 0), to(0, -1), to(0, api.MaxOff+1), to(api.MaxOff, api.MaxOff+1), to(api.MaxOff+1, api.MaxOff+1),
		to(math.MinInt, math.MaxInt), to(math.MaxInt, math.MinInt), to(math.MinInt, math.MinInt), to(math.MaxInt, math.MaxInt), to(math.MinInt, 5), to(5, math.MaxInt),
	}
}

// empty are spans without offsets that may be.
func empty() []api.Span {
	return []api.Span{to(0, 0), to(5, 5), to(15, 15), to(1000, 1000), to(api.MaxOff, api.MaxOff)}
}

// model is what a board must be: which of the offsets from base on are sacked.
type model struct {
	base, una, nxt int
	in             []bool
}

// modelOf is a board's model, for n offsets, on which nothing was sent.
func modelOf(base, n int) *model {
	return &model{base: base, una: base, nxt: base, in: make([]bool, n)}
}

// clone is the same model, going its own way.
func (m *model) clone() *model {
	return &model{m.base, m.una, m.nxt, slices.Clone(m.in)}
}

// sacked tells whether an offset is.
func (m *model) sacked(off int) bool {
	return m.base <= off && off-m.base < len(m.in) && m.in[off-m.base]
}

// sack sacks what of a span may be sacked, and answers how many offsets were not yet.
func (m *model) sack(s api.Span) int {
	n := 0
	for off := max(s.From, m.una); off < s.To; off++ {
		if !m.sacked(off) {
			m.in[off-m.base] = true
			n++
		}
	}
	return n
}

// ack acknowledges all below an offset, and answers how many offsets had not come yet.
func (m *model) ack(off int) int {
	n := 0
	for ; m.una < off; m.una++ {
		if !m.sacked(m.una) {
			n++
		}
		m.in[m.una-m.base] = false
	}
	return n
}

// spans are those of the offsets of s that are sacked, or that are not, as long as they can be.
func (m *model) spans(s api.Span, in bool) []api.Span {
	var l []api.Span
	for off := s.From; off < s.To; off++ {
		if m.sacked(off) != in {
			continue
		}
		if n := len(l); n > 0 && l[n-1].To == off {
			l[n-1].To++
		} else {
			l = append(l, to(off, off+1))
		}
	}
	return l
}

// high is the end of what has come.
func (m *model) high() int {
	high := m.una
	for off := m.una; off < m.nxt; off++ {
		if m.sacked(off) {
			high = off + 1
		}
	}
	return high
}

// has tells whether all of a span has come.
func (m *model) has(s api.Span) bool {
	for off := s.From; off < s.To; off++ {
		if off >= m.una && !m.sacked(off) {
			return false
		}
	}
	return true
}

// length is how many offsets spans have.
func length(l []api.Span) int {
	n := 0
	for _, s := range l {
		n += s.To - s.From
	}
	return n
}

// mustBe fails if a board is another one than the model.
func mustBe(t *testing.T, b *board.Board, m *model) {
	t.Helper()
	all := m.spans(to(m.una, m.nxt), true)
	if b.Una() != m.una || b.Nxt() != m.nxt {
		t.Fatalf("Una %d, Nxt %d, not %d, %d", b.Una(), b.Nxt(), m.una, m.nxt)
	}
	if got := slices.Collect(b.All()); !slices.Equal(got, all) {
		t.Fatalf("All: %v, not %v", got, all)
	}
	if got, want := slices.Collect(b.Holes()), m.spans(to(m.una, m.high()), false); !slices.Equal(got, want) {
		t.Fatalf("Holes of %v from %d on: %v, not %v", all, m.una, got, want)
	}
	if b.High() != m.high() || b.Bytes() != length(all) {
		t.Fatalf("of %v from %d on High is %d, Bytes %d", all, m.una, b.High(), b.Bytes())
	}
}

// mustPart fails if what is asked for a span is told otherwise than by the model.
func mustPart(t *testing.T, b *board.Board, m *model, s api.Span) {
	t.Helper()
	if got, want := b.Within(s), length(m.spans(s, true)); got != want {
		t.Fatalf("Within(%v) of %v: %d, not %d", s, slices.Collect(b.All()), got, want)
	}
	if got := b.Has(s); got != m.has(s) {
		t.Fatalf("Has(%v) of %v from %d on: %t", s, slices.Collect(b.All()), m.una, got)
	}
}

// mustParts is mustPart for all spans of the model's offsets.
func mustParts(t *testing.T, b *board.Board, m *model) {
	t.Helper()
	for from := range len(m.in) + 1 {
		for end := from; end <= len(m.in); end++ {
			mustPart(t, b, m, to(m.base+from, m.base+end))
		}
	}
}

// at is a board from una on, of which all up to nxt was sent, and these spans were sacked.
func at(una, nxt int, l ...api.Span) *board.Board {
	b, _ := board.New(una)
	b.Sent(nxt)
	for _, s := range l {
		b.Sack(s)
	}
	return b
}

// mustHave fails if a board has other ends or spans than these.
func mustHave(t *testing.T, b *board.Board, una, nxt int, want ...api.Span) {
	t.Helper()
	if b.Una() != una || b.Nxt() != nxt {
		t.Errorf("Una %d, Nxt %d, not %d, %d", b.Una(), b.Nxt(), una, nxt)
	}
	if got := slices.Collect(b.All()); !slices.Equal(got, want) || b.Bytes() != length(want) {
		t.Errorf("All: %v, of %d bytes, not %v", got, b.Bytes(), want)
	}
}

// mustAck fails if Ack tells something else.
func mustAck(t *testing.T, b *board.Board, off, want int, e api.Errno) {
	t.Helper()
	if n, got := b.Ack(off); n != want || got != e {
		t.Errorf("Ack(%d): %d, %d, not %d, %d", off, n, got, want, e)
	}
}

// mustSack fails if Sack tells something else.
func mustSack(t *testing.T, b *board.Board, s api.Span, want int, e api.Errno) {
	t.Helper()
	if n, got := b.Sack(s); n != want || got != e {
		t.Errorf("Sack(%v): %d, %d, not %d, %d", s, n, got, want, e)
	}
}

// mustSend fails if Sent tells something else.
func mustSend(t *testing.T, b *board.Board, off int, e api.Errno) {
	t.Helper()
	if got := b.Sent(off); got != e {
		t.Errorf("Sent(%d): %d, not %d", off, got, e)
	}
}

func TestExamples(t *testing.T) {
	b := at(10, 40)
	mustSack(t, b, to(20, 25), 5, api.OK)
	mustSack(t, b, to(22, 30), 5, api.OK)
	mustAck(t, b, 21, 10, api.OK)
	mustHave(t, b, 21, 40, to(21, 30))
	if b.Bytes() != 9 || b.High() != 30 || len(slices.Collect(b.Holes())) != 0 {
		t.Error(b.Bytes(), b.High(), slices.Collect(b.Holes()))
	}
	// DOC.md, example 3.
	b = at(0, 100, to(20, 30))
	mustAck(t, b, 25, 20, api.OK)
	if b.Bytes() != 5 {
		t.Error(b.Bytes())
	}
}

// The calls of the tree that the spans stand in are none of a board's.
func TestABoardHasNoOtherCalls(t *testing.T) {
	var got []string
	for m := range reflect.TypeFor[*board.Board]().Methods() {
		got = append(got, m.Name)
	}
	slices.Sort(got)
	if want := []string{"Ack", "All", "Bytes", "Clone", "Has", "High", "Holes", "Nxt", "Sack", "Same", "Sent", "Una", "Within"}; !slices.Equal(got, want) {
		t.Error(got)
	}
}

// P9.1
func TestNew(t *testing.T) {
	for _, una := range []int{0, 1, 10, 1 << 40, api.MaxOff - 1, api.MaxOff} {
		b, e := board.New(una)
		if b == nil || e != api.OK {
			t.Fatal(una, e)
		}
		mustBe(t, b, modelOf(una, 0))
	}
	for _, una := range []int{-1, -10, math.MinInt, math.MinInt + 1, api.MaxOff + 1, math.MaxInt} {
		if b, e := board.New(una); b != nil || e != api.ErrRange {
			t.Error(una, b, e)
		}
	}
}

// P9.1
func TestSent(t *testing.T) {
	b := at(10, 10)
	mustSend(t, b, 10, api.OK)
	mustSend(t, b, 40, api.OK)
	mustSend(t, b, 40, api.OK)
	for _, off := range []int{39, 10, 9, 0, -1, math.MinInt, 10 + api.MaxBuffer + 1, api.MaxOff, api.MaxOff + 1, math.MaxInt} {
		mustSend(t, b, off, api.ErrRange)
		mustHave(t, b, 10, 40)
	}
	mustSend(t, b, 10+api.MaxBuffer, api.OK)
	mustHave(t, b, 10, 10+api.MaxBuffer)
	// The limit goes with Una.
	mustSend(t, b, 11+api.MaxBuffer, api.ErrRange)
	mustAck(t, b, 13, 3, api.OK)
	mustSend(t, b, 14+api.MaxBuffer, api.ErrRange)
	mustSend(t, b, 13+api.MaxBuffer, api.OK)
	// What is sacked does not move it.
	mustSack(t, b, to(13, 20), 7, api.OK)
	mustSend(t, b, 14+api.MaxBuffer, api.ErrRange)
	mustHave(t, b, 13, 13+api.MaxBuffer, to(13, 20))
}

// P9.1
func TestSentAtTheEndOfTheOffsets(t *testing.T) {
	b := at(api.MaxOff-5, api.MaxOff-5)
	for _, off := range []int{api.MaxOff + 1, api.MaxOff + 10, math.MaxInt, api.MaxOff - 6, math.MinInt} {
		mustSend(t, b, off, api.ErrRange)
	}
	mustSend(t, b, api.MaxOff, api.OK)
	mustHave(t, b, api.MaxOff-5, api.MaxOff)
	mustSack(t, b, to(api.MaxOff-2, api.MaxOff), 2, api.OK)
	mustAck(t, b, api.MaxOff+1, 0, api.ErrAhead)
	mustAck(t, b, api.MaxOff, 3, api.OK)
	mustHave(t, b, api.MaxOff, api.MaxOff)
}

// P9.2
func TestAck(t *testing.T) {
	for _, c := range []struct {
		off, came int
		want      []api.Span
	}{
		{10, 0, []api.Span{to(20, 25), to(30, 40)}},
		{11, 1, []api.Span{to(20, 25), to(30, 40)}},
		{19, 9, []api.Span{to(20, 25), to(30, 40)}},
		{20, 10, []api.Span{to(20, 25), to(30, 40)}},
		{21, 10, []api.Span{to(21, 25), to(30, 40)}},
		{24, 10, []api.Span{to(24, 25), to(30, 40)}},
		{25, 10, []api.Span{to(30, 40)}},
		{28, 13, []api.Span{to(30, 40)}},
		{30, 15, []api.Span{to(30, 40)}},
		{39, 15, []api.Span{to(39, 40)}},
		{40, 15, nil},
		{45, 20, nil},
		{50, 25, nil},
	} {
		b := at(10, 50, to(20, 25), to(30, 40))
		mustAck(t, b, c.off, c.came, api.OK)
		mustHave(t, b, c.off, 50, c.want...)
		// Once more, it tells nothing.
		mustAck(t, b, c.off, 0, api.OK)
		mustHave(t, b, c.off, 50, c.want...)
	}
	b := at(10, 50, to(20, 25), to(30, 40))
	for _, off := range []int{9, 0, -1, math.MinInt} {
		mustAck(t, b, off, 0, api.ErrOld)
		mustHave(t, b, 10, 50, to(20, 25), to(30, 40))
	}
	for _, off := range []int{51, 100, api.MaxOff, api.MaxOff + 1, math.MaxInt} {
		mustAck(t, b, off, 0, api.ErrAhead)
		mustHave(t, b, 10, 50, to(20, 25), to(30, 40))
	}
}

// P9.3
func TestSack(t *testing.T) {
	for _, c := range []struct {
		s    api.Span
		came int
		want []api.Span
	}{
		{to(10, 15), 5, []api.Span{to(10, 15), to(20, 25), to(30, 40)}},
		{to(18, 19), 1, []api.Span{to(18, 19), to(20, 25), to(30, 40)}},
		{to(18, 20), 2, []api.Span{to(18, 25), to(30, 40)}},
		{to(18, 22), 2, []api.Span{to(18, 25), to(30, 40)}},
		{to(20, 25), 0, []api.Span{to(20, 25), to(30, 40)}},
		{to(21, 24), 0, []api.Span{to(20, 25), to(30, 40)}},
		{to(25, 27), 2, []api.Span{to(20, 27), to(30, 40)}},
		{to(24, 30), 5, []api.Span{to(20, 40)}},
		{to(25, 30), 5, []api.Span{to(20, 40)}},
		{to(26, 29), 3, []api.Span{to(20, 25), to(26, 29), to(30, 40)}},
		{to(15, 45), 15, []api.Span{to(15, 45)}},
		{to(40, 50), 10, []api.Span{to(20, 25), to(30, 50)}},
		{to(41, 50), 9, []api.Span{to(20, 25), to(30, 40), to(41, 50)}},
		{to(10, 50), 25, []api.Span{to(10, 50)}},
		// What is below Una has come already.
		{to(0, 5), 0, []api.Span{to(20, 25), to(30, 40)}},
		{to(0, 10), 0, []api.Span{to(20, 25), to(30, 40)}},
		{to(9, 10), 0, []api.Span{to(20, 25), to(30, 40)}},
		{to(0, 11), 1, []api.Span{to(10, 11), to(20, 25), to(30, 40)}},
		{to(5, 22), 10, []api.Span{to(10, 25), to(30, 40)}},
		{to(0, 50), 25, []api.Span{to(10, 50)}},
	} {
		b := at(10, 50, to(30, 40), to(20, 25))
		mustSack(t, b, c.s, c.came, api.OK)
		mustHave(t, b, 10, 50, c.want...)
		mustSack(t, b, c.s, 0, api.OK)
		mustHave(t, b, 10, 50, c.want...)
	}
}

// P9.3: in the order that is named, and nothing is changed.
func TestSackRefuses(t *testing.T) {
	for _, b := range []*board.Board{at(0, 0), at(10, 50, to(20, 25), to(30, 40)), at(10, 50)} {
		was := b.Clone()
		for _, s := range append(bad(), empty()...) {
			mustSack(t, b, s, 0, api.ErrRange)
		}
		for _, s := range []api.Span{to(0, b.Nxt()+1), to(b.Nxt(), b.Nxt()+1), to(b.Nxt()+5, b.Nxt()+9), to(0, api.MaxOff), to(api.MaxOff-1, api.MaxOff)} {
			mustSack(t, b, s, 0, api.ErrAhead)
		}
		if !b.Same(was) {
			t.Error("something is changed")
		}
	}
}

// P9.4
func TestAsked(t *testing.T) {
	b := at(10, 50, to(20, 25), to(30, 40))
	for _, c := range []struct {
		s      api.Span
		within int
		has    bool
	}{
		{to(0, 10), 0, true}, {to(0, 5), 0, true}, {to(0, 11), 0, false}, {to(10, 11), 0, false}, {to(9, 10), 0, true},
		{to(20, 25), 5, true}, {to(21, 24), 3, true}, {to(24, 25), 1, true}, {to(19, 25), 5, false}, {to(20, 26), 5, false}, {to(25, 26), 0, false},
		{to(25, 30), 0, false}, {to(24, 31), 2, false}, {to(20, 40), 15, false}, {to(30, 40), 10, true}, {to(39, 41), 1, false}, {to(0, 25), 5, false},
		{to(40, 60), 0, false}, {to(50, 60), 0, false}, {to(0, api.MaxOff), 15, false}, {to(22, api.MaxOff), 13, false}, {to(api.MaxOff-1, api.MaxOff), 0, false},
	} {
		if got := b.Within(c.s); got != c.within {
			t.Errorf("Within(%v): %d, not %d", c.s, got, c.within)
		}
		if got := b.Has(c.s); got != c.has {
			t.Errorf("Has(%v): %t", c.s, got)
		}
	}
	for _, b := range []*board.Board{b, at(0, 0), at(0, 9, to(0, 9))} {
		for _, s := range append(bad(), empty()...) {
			if b.Within(s) != 0 || !b.Has(s) {
				t.Errorf("of %v: Within %d, Has %t", s, b.Within(s), b.Has(s))
			}
		}
	}
	if got, want := slices.Collect(b.Holes()), []api.Span{to(10, 20), to(25, 30)}; !slices.Equal(got, want) || b.High() != 40 {
		t.Error(got, b.High())
	}
	// A span that begins at Una leaves no hole ahead of it, and Una stays where it is.
	b.Sack(to(10, 12))
	if got, want := slices.Collect(b.Holes()), []api.Span{to(12, 20), to(25, 30)}; !slices.Equal(got, want) || b.Una() != 10 {
		t.Error(got, b.Una())
	}
	if b := at(10, 50); b.High() != 10 || len(slices.Collect(b.Holes())) != 0 || len(slices.Collect(b.All())) != 0 {
		t.Error(b.High())
	}
	if b := at(0, 9, to(0, 9)); !b.Has(to(0, 9)) || b.Has(to(0, 10)) || b.High() != 9 || b.Una() != 0 {
		t.Error(b.High(), b.Una())
	}
}

// All boards of a few offsets, and all that may be done to them, at both ends of the numbers.
func TestAllSmallBoards(t *testing.T) {
	const n = 6
	for _, base := range []int{0, 100, api.MaxOff - n} {
		for bits := range 1 << n {
			b, m := at(base, base+n), modelOf(base, n)
			m.nxt = base + n
			for i := range n {
				if s := to(base+i, base+i+1); bits>>i&1 == 1 {
					mustSack(t, b, s, m.sack(s), api.OK)
				}
			}
			mustBe(t, b, m)
			mustParts(t, b, m)
			for una := base; una <= base+n; una++ {
				acked, am := b.Clone(), m.clone()
				mustAck(t, acked, una, am.ack(una), api.OK)
				mustBe(t, acked, am)
				mustParts(t, acked, am)
				for from := base; from < base+n; from++ {
					for end := from + 1; end <= base+n; end++ {
						sacked, sm := acked.Clone(), am.clone()
						mustSack(t, sacked, to(from, end), sm.sack(to(from, end)), api.OK)
						mustBe(t, sacked, sm)
						// P9.5: the same, just if all is.
						if acked.Same(sacked) != slices.Equal(am.in, sm.in) {
							t.Fatal(am, sm)
						}
					}
				}
				mustBe(t, acked, am)
			}
			mustBe(t, b, m)
		}
	}
}

// P9.6, too: Una less the first una, and Bytes, together are what Ack and Sack told, together.
func TestManyChanges(t *testing.T) {
	const n = 300
	rnd := rand.New(rand.NewSource(1))
	for _, base := range []int{0, 1, 1 << 40, api.MaxOff - n} {
		for range 20 {
			b, m := at(base, base), modelOf(base, n)
			came := 0
			for range 200 {
				switch una, flight := m.una, m.nxt-m.una; rnd.Intn(5) {
				case 0:
					m.nxt = min(m.nxt+rnd.Intn(20), base+n)
					mustSend(t, b, m.nxt, api.OK)
				case 1:
					off := una + rnd.Intn(flight/4+1)
					got, e := b.Ack(off)
					if want := m.ack(off); got != want || e != api.OK {
						t.Fatalf("Ack(%d): %d, %d, not %d", off, got, e, want)
					}
					came += got
				default:
					from := max(base, una+rnd.Intn(flight+6)-5)
					s := to(from, min(from+1+rnd.Intn(9), m.nxt))
					if s.From >= s.To {
						continue
					}
					got, e := b.Sack(s)
					if want := m.sack(s); got != want || e != api.OK {
						t.Fatalf("Sack(%v): %d, %d, not %d", s, got, e, want)
					}
					came += got
				}
				mustBe(t, b, m)
				x, y := base+rnd.Intn(n+1), base+rnd.Intn(n+1)
				mustPart(t, b, m, to(min(x, y), max(x, y)))
				if b.Una()-base+b.Bytes() != came {
					t.Fatalf("%d bytes were told, but Una is %d, Bytes %d", came, b.Una(), b.Bytes())
				}
			}
		}
	}
}

// P9.7
func TestOrderSaysNothing(t *testing.T) {
	rnd := rand.New(rand.NewSource(2))
	for range 300 {
		var l []api.Span
		for range rnd.Intn(12) {
			from := rnd.Intn(80)
			l = append(l, to(from, from+1+rnd.Intn(12)))
		}
		b := at(10, 100, l...)
		for range 5 {
			rnd.Shuffle(len(l), func(i, j int) { l[i], l[j] = l[j], l[i] })
			if o := at(10, 100, l...); !o.Same(b) || !b.Same(o) || o.Bytes() != b.Bytes() {
				t.Fatalf("%v: %v, not %v", l, slices.Collect(o.All()), slices.Collect(b.All()))
			}
		}
	}
}

// full is a board with as many spans as there may be, of three offsets each, with three between: 3 to 6, 9 to 12 and so on.
func full() (b *board.Board, last int) {
	b = at(0, api.MaxBuffer)
	for i := range api.MaxRuns {
		b.Sack(to(6*i+3, 6*i+6))
	}
	return b, 6*(api.MaxRuns-1) + 3
}

// P9.3: ErrFull
func TestFull(t *testing.T) {
	_, last := full()
	for _, c := range []struct {
		s     api.Span
		came  int
		e     api.Errno
		spans int
	}{
		{to(7, 8), 0, api.ErrFull, api.MaxRuns},
		{to(0, 1), 0, api.ErrFull, api.MaxRuns},
		{to(0, 2), 0, api.ErrFull, api.MaxRuns},
		{to(last+4, last+5), 0, api.ErrFull, api.MaxRuns},
		{to(api.MaxBuffer-1, api.MaxBuffer), 0, api.ErrFull, api.MaxRuns},
		// One that becomes one with others leaves no more than there were.
		{to(2, 3), 1, api.OK, api.MaxRuns},
		{to(6, 7), 1, api.OK, api.MaxRuns},
		{to(last+3, last+9), 6, api.OK, api.MaxRuns},
		{to(6, 9), 3, api.OK, api.MaxRuns - 1},
		{to(4, 14), 5, api.OK, api.MaxRuns - 1},
		{to(0, api.MaxBuffer), api.MaxBuffer - 3*api.MaxRuns, api.OK, 1},
		// So does one that has come already.
		{to(3, 6), 0, api.OK, api.MaxRuns},
		{to(4, 5), 0, api.OK, api.MaxRuns},
		// The errors that are named first.
		{to(8, 7), 0, api.ErrRange, api.MaxRuns},
		{to(7, 7), 0, api.ErrRange, api.MaxRuns},
		{to(7, api.MaxBuffer+1), 0, api.ErrAhead, api.MaxRuns},
		{to(api.MaxBuffer, api.MaxBuffer+1), 0, api.ErrAhead, api.MaxRuns},
	} {
		b, _ := full()
		was := b.Clone()
		mustSack(t, b, c.s, c.came, c.e)
		if n := len(slices.Collect(b.All())); n != c.spans || c.e != api.OK && !b.Same(was) {
			t.Errorf("%v: %d spans", c.s, n)
		}
	}
}

// P9.3: where Una goes on, there is room for as many again as go.
func TestFullTakesMoreBehindAnAck(t *testing.T) {
	b, last := full()
	mustAck(t, b, 5, 3, api.OK)
	mustSack(t, b, to(7, 8), 0, api.ErrFull)
	mustAck(t, b, 6, 0, api.OK)
	mustSack(t, b, to(7, 8), 1, api.OK)
	mustSack(t, b, to(last+4, last+5), 0, api.ErrFull)
	// What is below Una makes no span.
	mustSack(t, b, to(1, 2), 0, api.OK)
	mustSack(t, b, to(0, 6), 0, api.OK)
	if n := len(slices.Collect(b.All())); n != api.MaxRuns {
		t.Error(n)
	}
	mustAck(t, b, api.MaxBuffer, api.MaxBuffer-6-(3*(api.MaxRuns-1)+1), api.OK)
	mustHave(t, b, api.MaxBuffer, api.MaxBuffer)
}

// P9.5
func TestClone(t *testing.T) {
	const n = 60
	rnd := rand.New(rand.NewSource(3))
	boards, models := []*board.Board{at(0, 0)}, []*model{modelOf(0, n)}
	for range 2000 {
		i := rnd.Intn(len(boards))
		if len(boards) < 6 && rnd.Intn(30) == 0 {
			boards, models = append(boards, boards[i].Clone()), append(models, models[i].clone())
		}
		b, m := boards[i], models[i]
		switch rnd.Intn(20) {
		case 0:
			m.nxt = min(m.nxt+rnd.Intn(20), n)
			mustSend(t, b, m.nxt, api.OK)
		case 1:
			off := min(m.una+1, m.nxt)
			mustAck(t, b, off, m.ack(off), api.OK)
		default:
			if from := rnd.Intn(n); from < m.nxt {
				s := to(from, min(from+1+rnd.Intn(4), m.nxt))
				mustSack(t, b, s, m.sack(s), api.OK)
			}
		}
		for i := range boards {
			mustBe(t, boards[i], models[i])
		}
	}
	if len(boards) < 6 {
		t.Error("too few clones")
	}
}

// P9.5
func TestSame(t *testing.T) {
	boards := []*board.Board{
		at(0, 0), at(1, 1), at(0, 9), at(0, 10), at(0, 10, to(2, 5)), at(0, 10, to(2, 6)), at(0, 10, to(1, 5)), at(0, 10, to(2, 5), to(7, 9)),
		at(0, 10, to(7, 9)), at(0, 10, to(2, 9)), at(1, 10, to(2, 5)), at(0, 11, to(2, 5)), at(2, 10, to(2, 5)), at(0, 10, to(0, 5)), at(0, 10, to(0, 10)), at(10, 10), nil,
	}
	for i, a := range boards {
		for j, b := range boards {
			if a.Same(b) != (i == j) {
				t.Error(i, j)
			}
		}
		if !a.Same(a.Clone()) || !a.Clone().Same(a) {
			t.Error(i)
		}
	}
	// However it came to be.
	b := at(0, 8, to(7, 8), to(4, 6), to(0, 2))
	b.Ack(1)
	b.Sent(10)
	b.Sack(to(1, 5))
	b.Sack(to(8, 9))
	b.Ack(3)
	b.Sack(to(0, 6))
	if !b.Same(at(3, 10, to(7, 9), to(3, 6))) {
		t.Error(slices.Collect(b.All()))
	}
}

// P9.1 to P9.5: of nil
func TestOfNil(t *testing.T) {
	var b *board.Board
	for _, off := range []int{0, 5, -5, math.MinInt, math.MaxInt} {
		mustSend(t, b, off, api.ErrNil)
		mustAck(t, b, off, 0, api.ErrNil)
	}
	for _, s := range append(bad(), empty()...) {
		mustSack(t, b, s, 0, api.ErrNil)
		if b.Within(s) != 0 || !b.Has(s) {
			t.Errorf("of %v: Within %d, Has %t", s, b.Within(s), b.Has(s))
		}
	}
	for _, s := range []api.Span{to(0, 1), to(2, 5), to(0, api.MaxOff)} {
		mustSack(t, b, s, 0, api.ErrNil)
		if b.Within(s) != 0 || b.Has(s) {
			t.Errorf("of %v: Within %d, Has %t", s, b.Within(s), b.Has(s))
		}
	}
	if b.Una() != 0 || b.Nxt() != 0 || b.High() != 0 || b.Bytes() != 0 || b.Clone() != nil {
		t.Error("something is there")
	}
	if len(slices.Collect(b.All())) != 0 || len(slices.Collect(b.Holes())) != 0 {
		t.Error("something is gone through")
	}
	if !b.Same(nil) || b.Same(at(0, 0)) || at(0, 0).Same(b) {
		t.Error("Same")
	}
}

// No more is told once nobody wants more, and what was gone through can be gone through again.
func TestNoMoreThanWanted(t *testing.T) {
	b := at(1, 40, to(2, 5), to(7, 9), to(12, 13), to(20, 30))
	for _, c := range []struct {
		name string
		s    iter.Seq[api.Span]
		want []api.Span
	}{
		{"All", b.All(), []api.Span{to(2, 5), to(7, 9), to(12, 13), to(20, 30)}},
		{"Holes", b.Holes(), []api.Span{to(1, 2), to(5, 7), to(9, 12), to(13, 20)}},
	} {
		for wanted := 1; wanted <= len(c.want); wanted++ {
			var got []api.Span
			c.s(func(s api.Span) bool {
				got = append(got, s)
				return len(got) < wanted
			})
			if !slices.Equal(got, c.want[:wanted]) {
				t.Errorf("%s, of which %d were wanted: %v", c.name, wanted, got)
			}
		}
		if got := slices.Collect(c.s); !slices.Equal(got, c.want) {
			t.Errorf("%s, once more: %v", c.name, got)
		}
	}
}

// One that is gone through within another one goes its own way.
func TestOneWithinAnother(t *testing.T) {
	b := at(0, 20, to(2, 5), to(7, 9))
	var got []api.Span
	all, holes := b.All(), b.Holes()
	for s := range all {
		got = append(got, s)
		got = append(got, slices.Collect(holes)...)
		got = append(got, slices.Collect(all)...)
	}
	want := []api.Span{to(2, 5), to(0, 2), to(5, 7), to(2, 5), to(7, 9), to(7, 9), to(0, 2), to(5, 7), to(2, 5), to(7, 9)}
	if !slices.Equal(got, want) {
		t.Error(got)
	}
}

// Nothing is promised of what is told then, but that it ends and does not panic.
func TestChangesWhileGoneThrough(t *testing.T) {
	b, _ := full()
	n := 0
	for s := range b.All() {
		b.Sack(to(s.To, s.To+1))
		b.Ack(s.From)
		if n++; n > 10*api.MaxBuffer {
			t.Fatal("no end")
		}
	}
	b, _ = full()
	for s := range b.Holes() {
		b.Sack(s)
		b.Ack(s.From + 1)
		if n++; n > 10*api.MaxBuffer {
			t.Fatal("no end")
		}
	}
}

// Nothing is promised of what the zero value tells, but that each call ends and does not panic.
func TestTheZeroValue(t *testing.T) {
	var b board.Board
	b.Sent(40)
	b.Sack(to(2, 5))
	b.Ack(3)
	for range b.All() {
	}
	for range b.Holes() {
	}
	b.High()
	b.Bytes()
	b.Within(to(0, 40))
	b.Has(to(0, 40))
	b.Same(b.Clone())
	b.Same(at(0, 0))
}

// A long way, in which each third segment comes late: no more is kept than the window has.
func TestALongWay(t *testing.T) {
	const size = 10
	b := at(0, 0)
	told := 0
	count := func(n int, e api.Errno) {
		if e != api.OK {
			t.Fatal(e)
		}
		told += n
	}
	for i := range 30_000 {
		from := 3 * size * i
		mustSend(t, b, from+3*size, api.OK)
		count(b.Sack(to(from+2*size, from+3*size)))
		count(b.Sack(to(from+size, from+2*size)))
		mustHave(t, b, from, from+3*size, to(from+size, from+3*size))
		count(b.Ack(from + 3*size))
	}
	if told != b.Una() || b.Bytes() != 0 {
		t.Error(told, b.Una(), b.Bytes())
	}
}
