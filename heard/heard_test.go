package heard_test

import (
	"bytes"
	"iter"
	"math"
	"math/rand"
	"reflect"
	"slices"
	"testing"

	"undertow/api"
	"undertow/heard"
)

// The calls and the type as the chapter lists them.
var (
	_ func(uint32, int) (*heard.Heard, api.Errno)                = heard.New
	_ func(*heard.Heard, uint32, []byte) (heard.Told, api.Errno) = (*heard.Heard).Take
	_ func(*heard.Heard) int                                     = (*heard.Heard).Next
	_ func(*heard.Heard) []byte                                  = (*heard.Heard).Text
	_ func(*heard.Heard) iter.Seq[api.Span]                      = (*heard.Heard).Above
	_ func(*heard.Heard) int                                     = (*heard.Heard).Bytes
	_ func(*heard.Heard) *heard.Heard                            = (*heard.Heard).Clone
	_ struct {
		Span  api.Span
		Fresh int
		IsDup bool
		Dup   api.Span
	} = heard.Told{}
)

// What the calls of a receiver are made of are none of its own.
func TestAReceiverHasNoOtherCalls(t *testing.T) {
	var got []string
	for m := range reflect.TypeFor[*heard.Heard]().Methods() {
		got = append(got, m.Name)
	}
	slices.Sort(got)
	if want := []string{"Above", "Bytes", "Clone", "Next", "Take", "Text"}; !slices.Equal(got, want) {
		t.Error(got)
	}
	for _, f := range reflect.VisibleFields(reflect.TypeFor[heard.Heard]()) {
		if f.IsExported() {
			t.Errorf("field %s", f.Name)
		}
	}
}

const (
	round = 1 << 32
	half  = 1 << 31
)

var zero api.Span

// to is a span.
func to(from, to int) api.Span {
	return api.Span{From: from, To: to}
}

// letter is the byte of an offset in the text that most tests send; those that stand near each other are unlike each other, and none is 0.
func letter(off int) byte {
	return byte(off%251 + 1)
}

// text is the bytes of a span's offsets.
func text(s api.Span) []byte {
	p := make([]byte, 0, s.To-s.From)
	for off := s.From; off < s.To; off++ {
		p = append(p, letter(off))
	}
	return p
}

// fresh is what came of a span of which nothing was had.
func fresh(s api.Span) heard.Told {
	return heard.Told{Span: s, Fresh: s.To - s.From}
}

// partly is what came of a span of which n offsets were not had, and dup were.
func partly(s api.Span, n int, dup api.Span) heard.Told {
	return heard.Told{Span: s, Fresh: n, IsDup: true, Dup: dup}
}

// of is a receiver that has nothing.
func of(t *testing.T, first uint32, room int) *heard.Heard {
	t.Helper()
	h, e := heard.New(first, room)
	if h == nil || e != api.OK {
		t.Fatalf("New(%d, %d): %v, %d", first, room, h, e)
	}
	return h
}

// with is a receiver whose first number is 0 that has the text of these spans.
func with(t *testing.T, room int, l ...api.Span) *heard.Heard {
	t.Helper()
	h := of(t, 0, room)
	for _, s := range l {
		if _, e := h.Take(uint32(s.From), text(s)); e != api.OK {
			t.Fatalf("Take of %v: %d", s, e)
		}
	}
	return h
}

// mustTake fails if Take of a span's text, with a number of its From and first, tells something else.
func mustTake(t *testing.T, h *heard.Heard, first uint32, s api.Span, want heard.Told) {
	t.Helper()
	if got, e := h.Take(first+uint32(s.From), text(s)); got != want || e != api.OK {
		t.Fatalf("Take of %v: %+v, %d, not %+v", s, got, e, want)
	}
}

// mustRefuse fails if Take tells something, or another error.
func mustRefuse(t *testing.T, h *heard.Heard, num uint32, body []byte, want api.Errno) {
	t.Helper()
	if got, e := h.Take(num, body); got != (heard.Told{}) || e != want {
		t.Fatalf("Take(%d, %d bytes): %+v, %d, not %d", num, len(body), got, e, want)
	}
}

// mustHave fails if a receiver has other bytes than these in order, or other spans above them.
func mustHave(t *testing.T, h *heard.Heard, p []byte, above ...api.Span) {
	t.Helper()
	if h.Next() != len(p) || !bytes.Equal(h.Text(), p) {
		t.Fatalf("Next is %d, Text %v, not %d, %v", h.Next(), h.Text(), len(p), p)
	}
	n := len(p)
	for _, s := range above {
		n += s.To - s.From
	}
	if got := slices.Collect(h.Above()); !slices.Equal(got, above) || h.Bytes() != n {
		t.Fatalf("Above: %v, Bytes is %d, not %v, %d", got, h.Bytes(), above, n)
	}
}

// mustHear fails if a receiver has another part of the text in order, or other spans above it.
func mustHear(t *testing.T, h *heard.Heard, next int, above ...api.Span) {
	t.Helper()
	mustHave(t, h, text(to(0, next)), above...)
}

// P23.1
func TestNew(t *testing.T) {
	for _, c := range []struct {
		room int
		want api.Errno
	}{
		{1, api.OK}, {2, api.OK}, {1000, api.OK}, {api.MaxBuffer - 1, api.OK}, {api.MaxBuffer, api.OK},
		{0, api.ErrArg}, {-1, api.ErrArg}, {api.MaxBuffer + 1, api.ErrArg}, {round, api.ErrArg}, {round + 5, api.ErrArg}, {api.MaxOff, api.ErrArg}, {math.MaxInt, api.ErrArg}, {math.MinInt, api.ErrArg}, {5 - round, api.ErrArg},
	} {
		for _, first := range []uint32{0, 1, half - 1, half, round - 1} {
			h, e := heard.New(first, c.room)
			if e != c.want || (h == nil) != (e != api.OK) {
				t.Errorf("New(%d, %d): %v, %d, not %d", first, c.room, h, e, c.want)
			}
			if h != nil {
				mustHear(t, h, 0)
			}
		}
	}
}

// P23.2: the example of the chapter.
func TestTheExample(t *testing.T) {
	h := of(t, 0, 100)
	mustTake(t, h, 0, to(10, 20), fresh(to(10, 20)))
	mustHear(t, h, 0, to(10, 20))
	mustTake(t, h, 0, to(0, 12), partly(to(0, 12), 10, to(10, 12)))
	mustHear(t, h, 20)
}

// P23.2: what comes of a segment, wherever it stands beside what is had: 0 to 10, 20 to 30, 40 to 50, 51 to 52.
func TestTake(t *testing.T) {
	b, c, d := to(20, 30), to(40, 50), to(51, 52)
	for _, row := range []struct {
		told  heard.Told
		next  int
		above []api.Span
	}{
		// What was had already.
		{partly(to(0, 10), 0, to(0, 10)), 10, []api.Span{b, c, d}},
		{partly(to(0, 1), 0, to(0, 1)), 10, []api.Span{b, c, d}},
		{partly(to(3, 7), 0, to(3, 7)), 10, []api.Span{b, c, d}},
		{partly(to(9, 10), 0, to(9, 10)), 10, []api.Span{b, c, d}},
		{partly(b, 0, b), 10, []api.Span{b, c, d}},
		{partly(to(25, 30), 0, to(25, 30)), 10, []api.Span{b, c, d}},
		{partly(to(41, 42), 0, to(41, 42)), 10, []api.Span{b, c, d}},
		// What is in order.
		{fresh(to(10, 11)), 11, []api.Span{b, c, d}},
		{fresh(to(10, 19)), 19, []api.Span{b, c, d}},
		{fresh(to(10, 20)), 30, []api.Span{c, d}},
		{partly(to(5, 15), 5, to(5, 10)), 15, []api.Span{b, c, d}},
		{partly(to(9, 20), 10, to(9, 10)), 30, []api.Span{c, d}},
		{partly(to(10, 21), 10, to(20, 21)), 30, []api.Span{c, d}},
		{partly(to(10, 30), 10, b), 30, []api.Span{c, d}},
		{partly(to(10, 35), 15, b), 35, []api.Span{c, d}},
		{partly(to(10, 40), 20, b), 50, []api.Span{d}},
		{partly(to(10, 51), 21, b), 52, nil},
		// The first of all that was had tells alone.
		{partly(to(5, 45), 20, to(5, 10)), 50, []api.Span{d}},
		{partly(to(0, 60), 29, to(0, 10)), 60, nil},
		{partly(to(9, 53), 22, to(9, 10)), 53, nil},
		// What is above.
		{fresh(to(11, 12)), 10, []api.Span{to(11, 12), b, c, d}},
		{fresh(to(11, 19)), 10, []api.Span{to(11, 19), b, c, d}},
		{fresh(to(11, 20)), 10, []api.Span{to(11, 30), c, d}},
		{fresh(to(30, 31)), 10, []api.Span{to(20, 31), c, d}},
		{fresh(to(31, 39)), 10, []api.Span{b, to(31, 39), c, d}},
		{fresh(to(30, 40)), 10, []api.Span{to(20, 50), d}},
		{fresh(to(50, 51)), 10, []api.Span{b, to(40, 52)}},
		{fresh(to(52, 60)), 10, []api.Span{b, c, to(51, 60)}},
		{fresh(to(53, 60)), 10, []api.Span{b, c, d, to(53, 60)}},
		{partly(to(15, 25), 5, to(20, 25)), 10, []api.Span{to(15, 30), c, d}},
		{partly(to(25, 35), 5, to(25, 30)), 10, []api.Span{to(20, 35), c, d}},
		{partly(to(25, 45), 10, to(25, 30)), 10, []api.Span{to(20, 50), d}},
		{partly(to(35, 55), 9, to(40, 50)), 10, []api.Span{b, to(35, 55)}},
		{partly(to(11, 60), 28, b), 10, []api.Span{to(11, 60)}},
		{partly(to(50, 52), 1, d), 10, []api.Span{b, to(40, 52)}},
	} {
		for _, first := range []uint32{0, 7, half - 15, round - 1, round - 10, round - 45} {
			h := of(t, first, 100)
			for _, s := range []api.Span{c, to(0, 10), d, b} {
				mustTake(t, h, first, s, fresh(s))
			}
			mustHear(t, h, 10, b, c, d)
			mustTake(t, h, first, row.told.Span, row.told)
			mustHear(t, h, row.next, row.above...)
		}
	}
}

// P23.2: the greatest body, and one more; no body, and one of no bytes; whatever the number.
func TestTheBody(t *testing.T) {
	h := of(t, 100, api.MaxBuffer)
	for _, num := range []uint32{100, 101, 99, 100 + half, 100 + half - 1, 0} {
		mustRefuse(t, h, num, nil, api.ErrForm)
		mustRefuse(t, h, num, []byte{}, api.ErrForm)
		mustRefuse(t, h, num, text(to(0, 5))[:0], api.ErrForm)
		mustRefuse(t, h, num, text(to(0, api.MaxMss+1)), api.ErrLong)
		mustRefuse(t, h, num, text(to(0, api.MaxBuffer+1)), api.ErrLong)
	}
	mustHear(t, h, 0)
	mustTake(t, h, 100, to(3000, 3000+api.MaxMss), fresh(to(3000, 3000+api.MaxMss)))
	mustTake(t, h, 100, to(0, api.MaxMss), fresh(to(0, api.MaxMss)))
	mustHear(t, h, api.MaxMss, to(3000, 3000+api.MaxMss))
}

// P23.2: no offset is below 0, and a number that is 2^31 away stands for one that is too far below.
func TestOld(t *testing.T) {
	for _, first := range []uint32{0, 1, 5, half, round - 1} {
		h := of(t, first, 10)
		// Nothing is below the first one.
		for _, back := range []uint32{1, 2, 10, 1 << 16, half - 1, half} {
			mustRefuse(t, h, first-back, []byte{1}, api.ErrOld)
			mustRefuse(t, h, first-back, text(to(0, 20)), api.ErrOld)
			mustRefuse(t, h, first-back, text(to(0, api.MaxMss+1)), api.ErrLong)
			mustRefuse(t, h, first-back, nil, api.ErrForm)
		}
		mustHear(t, h, 0)
		mustTake(t, h, first, to(0, 7), fresh(to(0, 7)))
		mustRefuse(t, h, first-1, []byte{1, 2, 3}, api.ErrOld)
		mustRefuse(t, h, first-1, text(to(0, 30)), api.ErrOld)
		mustRefuse(t, h, first-half+7, []byte{1}, api.ErrOld)
		mustRefuse(t, h, first-half+8, []byte{1}, api.ErrOld)
		mustRefuse(t, h, first+half+6, []byte{1}, api.ErrAhead)
		mustTake(t, h, first, to(0, 9), partly(to(0, 9), 2, to(0, 7)))
		mustHear(t, h, 9)
	}
}

// P23.2: a segment ends room beyond Next at most, however far that is.
func TestAhead(t *testing.T) {
	for _, first := range []uint32{0, 3, half, round - 5} {
		h := of(t, first, 10)
		for _, s := range []api.Span{to(0, 11), to(10, 11), to(9, 11), to(1, 12), to(11, 12), to(500, 501), to(round/4, round/4+5), to(half-1, half)} {
			mustRefuse(t, h, first+uint32(s.From), text(s), api.ErrAhead)
		}
		mustHear(t, h, 0)
		mustTake(t, h, first, to(9, 10), fresh(to(9, 10)))
		mustRefuse(t, h, first+10, []byte{1}, api.ErrAhead)
		mustTake(t, h, first, to(0, 3), fresh(to(0, 3)))
		// Next is 3, so that 13 is the end.
		mustRefuse(t, h, first+13, []byte{1}, api.ErrAhead)
		mustRefuse(t, h, first+2, text(to(2, 14)), api.ErrAhead)
		mustRefuse(t, h, first, text(to(0, 14)), api.ErrAhead)
		mustHear(t, h, 3, to(9, 10))
		mustTake(t, h, first, to(12, 13), fresh(to(12, 13)))
		mustTake(t, h, first, to(2, 13), partly(to(2, 13), 8, to(2, 3)))
		mustHear(t, h, 13)
		mustTake(t, h, first, to(13, 23), fresh(to(13, 23)))
		mustRefuse(t, h, first+33, []byte{1}, api.ErrAhead)
		mustTake(t, h, first, to(32, 33), fresh(to(32, 33)))
		mustHear(t, h, 23, to(32, 33))
	}
	h := of(t, 0, 1)
	mustRefuse(t, h, 1, []byte{1}, api.ErrAhead)
	mustRefuse(t, h, 0, []byte{1, 2}, api.ErrAhead)
	for off := range 50 {
		mustTake(t, h, 0, to(off, off+1), fresh(to(off, off+1)))
	}
	mustTake(t, h, 0, to(0, 51), partly(to(0, 51), 1, to(0, 50)))
	mustTake(t, h, 0, to(7, 50), partly(to(7, 50), 0, to(7, 50)))
	mustHear(t, h, 51)
	h = of(t, 0, api.MaxBuffer)
	mustRefuse(t, h, api.MaxBuffer, []byte{1}, api.ErrAhead)
	mustTake(t, h, 0, to(api.MaxBuffer-1, api.MaxBuffer), fresh(to(api.MaxBuffer-1, api.MaxBuffer)))
	mustHear(t, h, 0, to(api.MaxBuffer-1, api.MaxBuffer))
}

// full is a receiver with as many spans as there may be, each of two offsets with two between, from an offset on; and these spans.
func full(t *testing.T, from int) (*heard.Heard, []api.Span) {
	t.Helper()
	var l []api.Span
	for i := range api.MaxRuns {
		l = append(l, to(from+4*i, from+4*i+2))
	}
	return with(t, api.MaxBuffer, l...), l
}

// P23.2: there are 4096 spans at most.
func TestFull(t *testing.T) {
	h, l := full(t, 2)
	end := l[len(l)-1].To
	mustHear(t, h, 0, l...)
	// Each of these would be one more, what is in order, too.
	for _, s := range []api.Span{to(0, 1), to(end+1, end+2), to(end+100, end+110), to(api.MaxBuffer-1, api.MaxBuffer)} {
		mustRefuse(t, h, uint32(s.From), text(s), api.ErrFull)
		mustRefuse(t, h, uint32(s.From), text(s), api.ErrFull)
	}
	mustRefuse(t, h, api.MaxBuffer, []byte{1}, api.ErrAhead)
	mustRefuse(t, h, round-1, []byte{1}, api.ErrOld)
	mustHear(t, h, 0, l...)
	// What is a part of one, or becomes one, is not.
	mustTake(t, h, 0, l[7], partly(l[7], 0, l[7]))
	mustTake(t, h, 0, to(end, end+1), fresh(to(end, end+1)))
	mustTake(t, h, 0, to(1, 2), fresh(to(1, 2)))
	l[0], l[len(l)-1] = to(1, 4), to(end-2, end+1)
	mustHear(t, h, 0, l...)
	mustRefuse(t, h, uint32(end+2), []byte{1}, api.ErrFull)
	mustTake(t, h, 0, to(4, 6), fresh(to(4, 6)))
	l = slices.Replace(l, 0, 2, to(1, 8))
	mustHear(t, h, 0, l...)
	mustTake(t, h, 0, to(end+2, end+3), fresh(to(end+2, end+3)))
	mustRefuse(t, h, uint32(end+4), []byte{1}, api.ErrFull)
	mustTake(t, h, 0, to(0, 1), fresh(to(0, 1)))
	mustHear(t, h, 8, append(l[1:], to(end+2, end+3))...)
}

// P23.2: what is in order is one of them.
func TestFullWithWhatIsInOrder(t *testing.T) {
	h, l := full(t, 0)
	end := l[len(l)-1].To
	mustHear(t, h, 2, l[1:]...)
	mustRefuse(t, h, uint32(end+1), []byte{1}, api.ErrFull)
	mustHear(t, h, 2, l[1:]...)
	mustTake(t, h, 0, to(2, 3), fresh(to(2, 3)))
	mustHear(t, h, 3, l[1:]...)
	mustRefuse(t, h, uint32(end+1), []byte{1}, api.ErrFull)
	mustTake(t, h, 0, to(3, 4), fresh(to(3, 4)))
	mustHear(t, h, 6, l[2:]...)
	mustTake(t, h, 0, to(end+1, end+3), fresh(to(end+1, end+3)))
	mustRefuse(t, h, uint32(end+4), []byte{1}, api.ErrFull)
	mustHear(t, h, 6, append(l[2:], to(end+1, end+3))...)
}

// P23.2: a segment that is refused leaves no byte behind, also where another one comes later.
func TestWhatIsRefusedLeavesNothing(t *testing.T) {
	h, l := full(t, 2)
	end := l[len(l)-1].To
	mustRefuse(t, h, 0, []byte{200}, api.ErrFull)
	mustRefuse(t, h, uint32(end+1), []byte{201, 202}, api.ErrFull)
	mustTake(t, h, 0, to(4, 6), fresh(to(4, 6)))
	mustTake(t, h, 0, to(end+1, end+3), fresh(to(end+1, end+3)))
	for h.Next() < end+3 {
		s := to(h.Next(), min(h.Next()+api.MaxMss, end+3))
		if _, e := h.Take(uint32(s.From), text(s)); e != api.OK {
			t.Fatal(s, e)
		}
	}
	mustHear(t, h, end+3)
}

// P23.2: bytes that were had stay as they were, whatever comes in their place.
func TestWhatIsHadStays(t *testing.T) {
	h := of(t, 0, 20)
	take := func(from int, p string) {
		t.Helper()
		if _, e := h.Take(uint32(from), []byte(p)); e != api.OK {
			t.Fatal(from, p, e)
		}
	}
	take(5, "fgh")
	take(5, "xyz")
	take(10, "kl")
	take(4, "EFGHIJKLM")
	mustHave(t, h, nil, to(4, 13))
	take(0, "abcd")
	mustHave(t, h, []byte("abcdEfghIJklM"))
	take(0, "nnnnnnnnnnnnnO")
	mustHave(t, h, []byte("abcdEfghIJklMO"))
	take(3, "--")
	mustHave(t, h, []byte("abcdEfghIJklMO"))
}

// P23.2: wherever the ring's end falls among the bytes that are ahead.
func TestRound(t *testing.T) {
	for room := 1; room <= 9; room++ {
		for next := range 2*room + 1 {
			for from := range room {
				for end := from + 1; end <= room; end++ {
					h := of(t, 9, room)
					for off := range next {
						mustTake(t, h, 9, to(off, off+1), fresh(to(off, off+1)))
					}
					s := to(next+from, next+end)
					mustTake(t, h, 9, s, fresh(s))
					if from > 0 {
						mustHear(t, h, next, s)
						mustTake(t, h, 9, to(next, next+from), fresh(to(next, next+from)))
					}
					mustHear(t, h, next+end)
					mustRefuse(t, h, uint32(9+next+end+room), []byte{1}, api.ErrAhead)
					mustTake(t, h, 9, to(next+end+room-1, next+end+room), fresh(to(next+end+room-1, next+end+room)))
				}
			}
		}
	}
}

// P23.2, P23.3: with the greatest room, many times round, behind ahead of before, so that all is ahead till the last one comes.
func TestTheGreatest(t *testing.T) {
	h := of(t, round-1000, api.MaxBuffer)
	for next := 0; next < 5*api.MaxBuffer; next += api.MaxBuffer {
		for from := next + api.MaxBuffer - api.MaxMss; from > next; from -= api.MaxMss {
			mustTake(t, h, round-1000, to(from, from+api.MaxMss), fresh(to(from, from+api.MaxMss)))
			if h.Next() != next {
				t.Fatal(h.Next())
			}
		}
		mustTake(t, h, round-1000, to(next, next+api.MaxMss), fresh(to(next, next+api.MaxMss)))
		mustHear(t, h, next+api.MaxBuffer)
	}
}

// P23.3: of nil
func TestOfNil(t *testing.T) {
	var h *heard.Heard
	for range 2 {
		for _, body := range [][]byte{nil, {}, {1}, text(to(0, api.MaxMss)), text(to(0, api.MaxMss+1))} {
			for _, num := range []uint32{0, 1, half, round - 1} {
				mustRefuse(t, h, num, body, api.ErrNil)
			}
		}
		mustHear(t, h, 0)
		if h.Clone() != nil || len(h.Text()) > 0 {
			t.Error("a clone of nil, or a text")
		}
		for s := range h.Above() {
			t.Error(s)
		}
	}
}

// P1: nothing is promised of the zero value, but that no call panics.
func TestTheZeroValue(t *testing.T) {
	var h heard.Heard
	for _, h := range []*heard.Heard{&h, h.Clone()} {
		for _, num := range []uint32{0, 1, half, round - 1} {
			h.Take(num, nil)
			h.Take(num, []byte{1})
			h.Take(num, text(to(0, api.MaxMss)))
		}
		h.Next()
		h.Text()
		for range h.Above() {
		}
		h.Bytes()
	}
}

// What is handed in is neither changed nor kept, and what lies behind its length is neither read nor written.
func TestTakeKeepsNothing(t *testing.T) {
	h := of(t, 0, 50)
	p := text(to(5, 20))
	for _, n := range []int{6, 10} {
		if _, e := h.Take(5, p[:n]); e != api.OK || !bytes.Equal(p, text(to(5, 20))) {
			t.Fatal(e, p)
		}
	}
	mustHear(t, h, 0, to(5, 15))
	clear(p)
	mustTake(t, h, 0, to(0, 5), fresh(to(0, 5)))
	mustHear(t, h, 15)
	p = text(to(15, 30))
	if _, e := h.Take(15, p[:2]); e != api.OK {
		t.Fatal(e)
	}
	clear(p)
	mustHear(t, h, 17)
}

// What is answered is new memory, behind its length too.
func TestTextIsNewMemory(t *testing.T) {
	h := with(t, 50, to(0, 10), to(20, 30))
	a, b := h.Text(), h.Text()
	clear(a[:cap(a)])
	_ = append(a, 90, 91, 92)
	if !bytes.Equal(b, text(to(0, 10))) {
		t.Error(b)
	}
	mustHear(t, h, 10, to(20, 30))
	_ = append(b, 93)
	mustTake(t, h, 0, to(10, 20), fresh(to(10, 20)))
	mustHear(t, h, 30)
	if !bytes.Equal(b, text(to(0, 10))) {
		t.Error(b)
	}
	// So is what was answered ahead of what comes.
	c := h.Text()
	mustTake(t, h, 0, to(30, 31), fresh(to(30, 31)))
	_ = append(c, 94)
	mustHear(t, h, 31)
}

// P23.3: a clone goes its own way.
func TestClone(t *testing.T) {
	h := with(t, 20, to(0, 7), to(10, 12), to(15, 17))
	c := h.Clone()
	if c == nil || c == h {
		t.Fatal("no clone")
	}
	mustHear(t, c, 7, to(10, 12), to(15, 17))
	other := bytes.Repeat([]byte{255}, 13)
	if _, e := c.Take(7, other[:3]); e != api.OK {
		t.Fatal(e)
	}
	mustHear(t, h, 7, to(10, 12), to(15, 17))
	was := slices.Concat(text(to(0, 7)), other[:3], text(to(10, 12)))
	mustHave(t, c, was, to(15, 17))
	mustTake(t, h, 0, to(7, 10), fresh(to(7, 10)))
	mustTake(t, h, 0, to(18, 20), fresh(to(18, 20)))
	mustHear(t, h, 12, to(15, 17), to(18, 20))
	mustHave(t, c, was, to(15, 17))
	if _, e := c.Take(12, other); e != api.OK {
		t.Fatal(e)
	}
	mustHear(t, h, 12, to(15, 17), to(18, 20))
	mustHave(t, c, slices.Concat(was, other[:3], text(to(15, 17)), other[:8]))
	mustTake(t, h, 0, to(12, 18), partly(to(12, 18), 4, to(15, 17)))
	mustHear(t, h, 20)
	// It has the first number and the room of the other one.
	for _, first := range []uint32{3, half, round - 2} {
		h := of(t, first, 10)
		mustTake(t, h, first, to(0, 4), fresh(to(0, 4)))
		c := h.Clone().Clone()
		mustRefuse(t, c, first-1, []byte{1}, api.ErrOld)
		mustRefuse(t, c, first+14, []byte{1}, api.ErrAhead)
		mustTake(t, c, first, to(13, 14), fresh(to(13, 14)))
		mustTake(t, c, first, to(4, 8), fresh(to(4, 8)))
		mustHear(t, c, 8, to(13, 14))
		mustHear(t, h, 4)
	}
}

// P23.3: no more is told once nobody wants more, and what was gone through can be gone through again, as it is then.
func TestAbove(t *testing.T) {
	h := with(t, 50, to(0, 3), to(5, 8), to(10, 12), to(20, 21))
	all := h.Above()
	want := []api.Span{to(5, 8), to(10, 12), to(20, 21)}
	for wanted := 1; wanted <= len(want); wanted++ {
		var got []api.Span
		all(func(s api.Span) bool {
			got = append(got, s)
			return len(got) < wanted
		})
		if !slices.Equal(got, want[:wanted]) {
			t.Errorf("of which %d were wanted: %v", wanted, got)
		}
	}
	var within []api.Span
	for s := range all {
		within = append(append(within, s), slices.Collect(all)...)
	}
	if wants := slices.Concat(want[:1], want, want[1:2], want, want[2:], want); !slices.Equal(within, wants) {
		t.Error(within)
	}
	mustHear(t, h, 3, want...)
	// One that was asked for of a receiver that had nothing in order.
	h = with(t, 50, to(5, 8))
	all = h.Above()
	mustTake(t, h, 0, to(0, 2), fresh(to(0, 2)))
	if got := slices.Collect(all); slices.Contains(got, to(0, 2)) {
		t.Error(got)
	}
}

// P1: nothing is promised of what is told then, but that it ends and does not panic.
func TestChangesWhileGoneThrough(t *testing.T) {
	h, _ := full(t, 2)
	n := 0
	for s := range h.Above() {
		h.Take(uint32(s.To), []byte{1, 2})
		h.Take(uint32(h.Next()), []byte{1, 2, 3})
		h.Take(uint32(h.Next()+api.MaxBuffer-2), []byte{1})
		if n++; n > 10*api.MaxRuns {
			t.Fatal("no end")
		}
	}
}

// model is what the chapter says, in words as near as may be: of each offset, whether it is had, and which byte.
type model struct {
	first uint32
	room  int
	had   map[int]byte
}

func newModel(first uint32, room int) *model {
	return &model{first, room, map[int]byte{}}
}

// next is the least offset that is not had.
func (m *model) next() int {
	off := 0
	for m.has(off) {
		off++
	}
	return off
}

func (m *model) has(off int) bool {
	_, ok := m.had[off]
	return ok
}

// spans are those of had offsets from one on, as long as they can be, rising.
func (m *model) spans(from int) []api.Span {
	var offs []int
	for off := range m.had {
		if off >= from {
			offs = append(offs, off)
		}
	}
	slices.Sort(offs)
	var l []api.Span
	for _, off := range offs {
		if n := len(l); n > 0 && l[n-1].To == off {
			l[n-1].To++
		} else {
			l = append(l, to(off, off+1))
		}
	}
	return l
}

func (m *model) text() []byte {
	var p []byte
	for off := 0; m.has(off); off++ {
		p = append(p, m.had[off])
	}
	return p
}

// place is the offset next to Next that a number stands for, and whether there is one: of those from 2^31 below Next on the first one that has this number.
func (m *model) place(num uint32) (int, bool) {
	off := m.next() - half
	off += int(num - m.first - uint32(off))
	return off, off >= 0
}

func (m *model) take(num uint32, body []byte) (heard.Told, api.Errno) {
	if len(body) == 0 {
		return heard.Told{}, api.ErrForm
	}
	if len(body) > 2048 {
		return heard.Told{}, api.ErrLong
	}
	off, ok := m.place(num)
	if !ok {
		return heard.Told{}, api.ErrOld
	}
	if off+len(body)-m.next() > m.room {
		return heard.Told{}, api.ErrAhead
	}
	told := heard.Told{Span: to(off, off+len(body))}
	for i := range body {
		at := off + i
		if !m.has(at) {
			told.Fresh++
			continue
		}
		if !told.IsDup {
			told.IsDup, told.Dup = true, to(at, at)
		}
		if told.Dup.To == at {
			told.Dup.To++
		}
	}
	for i, b := range body {
		if !m.has(off + i) {
			m.had[off+i] = b
		}
	}
	return told, api.OK
}

func (m *model) clone() *model {
	c := newModel(m.first, m.room)
	for off, b := range m.had {
		c.had[off] = b
	}
	return c
}

// pair is a receiver, and the model that it must be like.
type pair struct {
	h *heard.Heard
	m *model
}

// segment is a number and a body, mostly of what may come.
func segment(rnd *rand.Rand, m *model) (uint32, []byte) {
	next := m.next()
	off := next + rnd.Intn(m.room+4) - 2
	switch rnd.Intn(12) {
	case 0:
		off = rnd.Intn(next + 1)
	case 1:
		off = next
	case 2:
		off = next - half + rnd.Intn(5) - 2
	case 3:
		off = rnd.Intn(5) - 3
	}
	body := make([]byte, rnd.Intn(min(m.room+3, 12)))
	if rnd.Intn(40) == 0 {
		body = make([]byte, 2047+rnd.Intn(3))
	}
	rnd.Read(body)
	return m.first + uint32(off), body
}

// P23.1 to P23.3, P23.5: some that go their own ways, beside the model.
func TestAnyWay(t *testing.T) {
	rnd := rand.New(rand.NewSource(23))
	told := map[api.Errno]int{}
	for _, first := range []uint32{0, 1, 17, half - 20, half, round - 1, round - 60} {
		for _, room := range []int{1, 2, 3, 5, 8, 13, 20, 40, 2100} {
			pairs := []*pair{{of(t, first, room), newModel(first, room)}}
			for range 250 {
				p := pairs[rnd.Intn(len(pairs))]
				if rnd.Intn(60) == 0 {
					pairs = append(pairs[:min(len(pairs), 2)], &pair{p.h.Clone(), p.m.clone()})
				}
				num, body := segment(rnd, p.m)
				was := p.h.Bytes()
				want, e := p.m.take(num, body)
				told[e]++
				if got, ge := p.h.Take(num, body); got != want || ge != e {
					t.Fatalf("Take(%d, %d bytes): %+v, %d, not %+v, %d", num, len(body), got, ge, want, e)
				}
				if p.h.Bytes() != was+want.Fresh {
					t.Fatalf("Bytes is %d, not %d", p.h.Bytes(), was+want.Fresh)
				}
				for _, p := range pairs {
					mustHave(t, p.h, p.m.text(), p.m.spans(p.m.next())...)
				}
			}
		}
	}
	for _, e := range []api.Errno{api.OK, api.ErrForm, api.ErrLong, api.ErrOld, api.ErrAhead} {
		if told[e] < 20 {
			t.Errorf("error %d: told %d times", e, told[e])
		}
	}
}

// pieces are spans that are all offsets up to an end, together, some of them more than once; none is longer than a segment may be.
func pieces(rnd *rand.Rand, end int) []api.Span {
	var l []api.Span
	for from := 0; from < end; {
		n := min(1+rnd.Intn(200), end-from)
		l = append(l, to(from, from+n))
		from += n
	}
	for range rnd.Intn(20) {
		from := rnd.Intn(end)
		l = append(l, to(from, from+1+rnd.Intn(min(end-from, api.MaxMss))))
	}
	return l
}

// P23.4, P23.5: segments of one text, some of which come more than once, or not at all.
func TestInWhateverOrder(t *testing.T) {
	rnd := rand.New(rand.NewSource(4))
	for range 300 {
		all := make([]byte, 1+rnd.Intn(3000))
		rnd.Read(all)
		first := rnd.Uint32()
		l := pieces(rnd, len(all))
		rnd.Shuffle(len(l), func(i, j int) { l[i], l[j] = l[j], l[i] })
		l = l[rnd.Intn(2)*rnd.Intn(len(l)):]
		var want *heard.Heard
		for range 4 {
			h, sum := of(t, first, 3000), 0
			for _, s := range l {
				told, e := h.Take(first+uint32(s.From), all[s.From:s.To])
				if e != api.OK {
					t.Fatal(s, e)
				}
				sum += told.Fresh
			}
			if want == nil {
				want = h.Clone()
			}
			mustHave(t, h, all[:want.Next()], slices.Collect(want.Above())...)
			if h.Bytes() != sum {
				t.Fatalf("%d are had, of which %d were fresh", h.Bytes(), sum)
			}
			mustBeTheText(t, h, first, all)
			rnd.Shuffle(len(l), func(i, j int) { l[i], l[j] = l[j], l[i] })
		}
	}
}

// mustBeTheText fills what a receiver lacks with other bytes than a text's, and fails if what it had ahead of that is not the text.
func mustBeTheText(t *testing.T, h *heard.Heard, first uint32, all []byte) {
	t.Helper()
	want, at := slices.Clone(all), h.Next()
	spans := append(slices.Collect(h.Above()), to(len(all), len(all)))
	for _, s := range spans {
		for ; at < s.From; at++ {
			want[at] = ^all[at]
		}
		at = s.To
	}
	for h.Next() < len(all) {
		other := slices.Clone(all[h.Next():min(h.Next()+api.MaxMss, len(all))])
		for i := range other {
			other[i] = ^other[i]
		}
		if _, e := h.Take(first+uint32(h.Next()), other); e != api.OK {
			t.Fatal(e)
		}
	}
	mustHave(t, h, want)
}
