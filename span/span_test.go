package span_test

import (
	"iter"
	"math"
	"math/rand"
	"slices"
	"testing"

	"undertow/api"
	"undertow/span"
)

// The calls with the types that the chapter lists.
var (
	_ func(api.Span) bool                    = span.May
	_ func(api.Span) int                     = span.Len
	_ func(api.Span, int) bool               = span.Has
	_ func(s, t api.Span) bool               = span.Holds
	_ func(s, t api.Span) api.Span           = span.Meet
	_ func(s, t api.Span) bool               = span.Touch
	_ func(...api.Span) api.Span             = span.Hull
	_ func(api.Span, int) api.Span           = span.Below
	_ func(api.Span, int) api.Span           = span.From
	_ func(s, t api.Span) int                = span.Compare
	_ func(api.Span, int) iter.Seq[api.Span] = span.Cut
)

var zero api.Span

// to is a span.
func to(from, to int) api.Span {
	return api.Span{From: from, To: to}
}

// places are those at which something turns over, and their neighbours, rising; some are no offsets.
func places() []int {
	return []int{
		math.MinInt, math.MinInt + 1, -api.MaxOff - 1, -api.MaxOff, -2, -1, 0, 1, 2, 3, 4, 5, 6, 7,
		1 << 31, 1 << 32, 1<<61 - 1, 1 << 61, 1<<61 + 1,
		api.MaxOff - 4, api.MaxOff - 3, api.MaxOff - 2, api.MaxOff - 1, api.MaxOff, api.MaxOff + 1, api.MaxOff + 2, math.MaxInt - 1, math.MaxInt,
	}
}

// pairs has a span from each place to each place, most of which may not be.
func pairs() []api.Span {
	var l []api.Span
	for _, from := range places() {
		for _, end := range places() {
			l = append(l, to(from, end))
		}
	}
	return l
}

// few is some of the pairs: all that may be from places that are offsets, and some that may not be.
func few() []api.Span {
	ends := []int{0, 1, 2, 3, 5, 1 << 61, api.MaxOff - 2, api.MaxOff - 1, api.MaxOff}
	l := []api.Span{
		to(-1, 3), to(3, 2), to(5, 0), to(-5, -2), to(0, api.MaxOff+1), to(api.MaxOff, api.MaxOff+1), to(api.MaxOff+1, api.MaxOff+1),
		to(math.MinInt, math.MaxInt), to(math.MaxInt, math.MinInt), to(0, math.MaxInt), to(math.MinInt, 3), to(-1, -1),
	}
	for i, from := range ends {
		for _, end := range ends[i:] {
			l = append(l, to(from, end))
		}
	}
	return l
}

// in tells, by the chapter's words, whether an offset is one of a span's.
func in(s api.Span, off int) bool {
	if s.From < 0 || s.To > api.MaxOff || s.From > s.To {
		return false
	}
	return s.From <= off && off < s.To
}

// none tells whether a span has no offset.
func none(s api.Span) bool {
	return !in(s, s.From)
}

// samples are offsets, and numbers that are none, by which two spans are told apart, if their ends are among the places.
func samples() []int {
	var l []int
	for _, at := range places() {
		l = append(l, at)
		if at > math.MinInt {
			l = append(l, at-1)
		}
	}
	return l
}

// mustHave tells whether a span is the zero one, or not empty, and has just what it should have.
func mustHave(t *testing.T, what string, s api.Span, should func(off int) bool) {
	t.Helper()
	some := false
	for _, off := range samples() {
		some = some || should(off)
		if in(s, off) != should(off) {
			t.Fatalf("%s: %v; has %d: %t", what, s, off, in(s, off))
		}
	}
	if !some && s != zero {
		t.Fatalf("%s: %v, not the zero span", what, s)
	}
}

func TestMay(t *testing.T) {
	for _, c := range []struct {
		s    api.Span
		want bool
	}{
		{to(0, 0), true}, {to(0, 1), true}, {to(5, 5), true}, {to(2, 9), true},
		{to(0, api.MaxOff), true}, {to(api.MaxOff, api.MaxOff), true}, {to(api.MaxOff-1, api.MaxOff), true},
		{to(-1, 0), false}, {to(-1, 5), false}, {to(-1, -1), false}, {to(-5, -2), false},
		{to(1, 0), false}, {to(9, 2), false}, {to(api.MaxOff, 0), false},
		{to(0, api.MaxOff+1), false}, {to(api.MaxOff, api.MaxOff+1), false}, {to(api.MaxOff+1, api.MaxOff+1), false},
		{to(math.MinInt, math.MaxInt), false}, {to(math.MaxInt, math.MinInt), false}, {to(0, math.MaxInt), false}, {to(math.MinInt, 0), false},
	} {
		if got := span.May(c.s); got != c.want {
			t.Errorf("May(%v): %t", c.s, got)
		}
	}
}

func TestLen(t *testing.T) {
	for _, c := range []struct {
		s    api.Span
		want int
	}{
		{to(0, 0), 0}, {to(7, 7), 0}, {to(0, 1), 1}, {to(2, 9), 7}, {to(0, api.MaxOff), api.MaxOff}, {to(1, api.MaxOff), api.MaxOff - 1}, {to(api.MaxOff, api.MaxOff), 0},
		// As of the zero span.
		{to(-1, 5), 0}, {to(9, 2), 0}, {to(0, api.MaxOff+1), 0}, {to(-7, -3), 0}, {to(math.MinInt, math.MaxInt), 0}, {to(math.MaxInt, math.MinInt), 0},
	} {
		if got := span.Len(c.s); got != c.want {
			t.Errorf("Len(%v): %d, not %d", c.s, got, c.want)
		}
	}
}

func TestHas(t *testing.T) {
	for _, c := range []struct {
		s    api.Span
		off  int
		want bool
	}{
		{to(2, 5), 1, false}, {to(2, 5), 2, true}, {to(2, 5), 4, true}, {to(2, 5), 5, false}, {to(3, 3), 3, false}, {to(0, 0), 0, false},
		{to(0, api.MaxOff), api.MaxOff - 1, true}, {to(0, api.MaxOff), api.MaxOff, false}, {to(0, 1), -1, false},
		{to(-2, 5), 3, false}, {to(-2, 5), -1, false}, {to(0, api.MaxOff+1), 3, false}, {to(5, 2), 3, false},
	} {
		if got := span.Has(c.s, c.off); got != c.want {
			t.Errorf("Has(%v, %d): %t", c.s, c.off, got)
		}
	}
	for _, s := range pairs() {
		for _, off := range samples() {
			if got := span.Has(s, off); got != in(s, off) {
				t.Fatalf("Has(%v, %d): %t", s, off, got)
			}
		}
	}
}

func TestHolds(t *testing.T) {
	for _, c := range []struct {
		s, t api.Span
		want bool
	}{
		{to(2, 9), to(2, 9), true}, {to(2, 9), to(3, 8), true}, {to(2, 9), to(2, 3), true}, {to(2, 9), to(8, 9), true},
		{to(2, 9), to(1, 9), false}, {to(2, 9), to(2, 10), false}, {to(2, 9), to(9, 12), false}, {to(2, 9), to(0, 2), false}, {to(3, 8), to(2, 9), false},
		// Each offset of a span that is empty, or may not be.
		{to(2, 9), to(20, 20), true}, {to(2, 2), to(7, 7), true}, {zero, zero, true}, {to(2, 9), to(5, 3), true}, {to(2, 9), to(-3, 30), true}, {to(-1, 5), to(-1, 3), true},
		{to(-1, 5), to(0, 1), false}, {zero, to(0, 1), false}, {to(3, 3), to(3, 4), false}, {to(0, api.MaxOff+1), to(3, 4), false},
		{to(0, api.MaxOff), to(0, api.MaxOff), true}, {to(0, api.MaxOff), to(0, api.MaxOff+1), true}, {to(1, api.MaxOff), to(0, api.MaxOff), false},
	} {
		if got := span.Holds(c.s, c.t); got != c.want {
			t.Errorf("Holds(%v, %v): %t", c.s, c.t, got)
		}
	}
	for _, s := range few() {
		for _, u := range few() {
			want := true
			for _, off := range samples() {
				want = want && (!in(u, off) || in(s, off))
			}
			if got := span.Holds(s, u); got != want {
				t.Fatalf("Holds(%v, %v): %t", s, u, got)
			}
		}
	}
}

func TestMeet(t *testing.T) {
	for _, c := range []struct{ s, t, want api.Span }{
		{to(2, 9), to(5, 12), to(5, 9)}, {to(2, 5), to(5, 9), zero}, {to(2, 9), to(3, 4), to(3, 4)}, {to(2, 9), to(2, 9), to(2, 9)}, {to(2, 4), to(6, 9), zero},
		{to(5, 5), to(2, 9), zero}, {to(5, 5), to(5, 5), zero}, {to(-1, 9), to(2, 5), zero}, {to(2, 5), to(9, 2), zero}, {to(0, api.MaxOff), to(7, api.MaxOff), to(7, api.MaxOff)},
		{to(0, api.MaxOff+1), to(2, 5), zero},
	} {
		if got := span.Meet(c.s, c.t); got != c.want {
			t.Errorf("Meet(%v, %v): %v, not %v", c.s, c.t, got, c.want)
		}
		if got := span.Meet(c.t, c.s); got != c.want {
			t.Errorf("Meet(%v, %v): %v, not %v", c.t, c.s, got, c.want)
		}
	}
	for _, s := range few() {
		for _, u := range few() {
			mustHave(t, "Meet", span.Meet(s, u), func(off int) bool { return in(s, off) && in(u, off) })
		}
	}
}

func TestTouch(t *testing.T) {
	for _, c := range []struct {
		s, t api.Span
		want bool
	}{
		{to(2, 5), to(5, 9), true}, {to(2, 5), to(4, 9), true}, {to(2, 5), to(6, 9), false}, {to(2, 9), to(3, 4), true}, {to(2, 9), to(2, 9), true},
		{to(5, 5), to(2, 9), false}, {to(5, 5), to(5, 9), false}, {to(5, 5), to(5, 5), false}, {zero, to(0, 3), false}, {zero, zero, false},
		{to(-1, 5), to(2, 9), false}, {to(-1, 0), to(0, 9), false}, {to(9, 2), to(2, 9), false}, {to(0, 3), to(3, api.MaxOff+1), false},
		{to(0, api.MaxOff-1), to(api.MaxOff-1, api.MaxOff), true}, {to(0, api.MaxOff-2), to(api.MaxOff-1, api.MaxOff), false}, {to(0, api.MaxOff), to(api.MaxOff, api.MaxOff), false},
	} {
		if got := span.Touch(c.s, c.t); got != c.want {
			t.Errorf("Touch(%v, %v): %t", c.s, c.t, got)
		}
		if got := span.Touch(c.t, c.s); got != c.want {
			t.Errorf("Touch(%v, %v): %t", c.t, c.s, got)
		}
	}
	for _, s := range few() {
		for _, u := range few() {
			common := false
			for _, off := range samples() {
				common = common || in(s, off) && in(u, off)
			}
			want := !none(s) && !none(u) && (common || s.To == u.From || u.To == s.From)
			if got := span.Touch(s, u); got != want {
				t.Fatalf("Touch(%v, %v): %t", s, u, got)
			}
		}
	}
}

func TestHull(t *testing.T) {
	for _, c := range []struct {
		l    []api.Span
		want api.Span
	}{
		{nil, zero}, {[]api.Span{}, zero}, {[]api.Span{to(2, 5)}, to(2, 5)}, {[]api.Span{to(2, 5), to(7, 9)}, to(2, 9)}, {[]api.Span{to(7, 9), to(2, 5)}, to(2, 9)},
		{[]api.Span{to(2, 9), to(3, 4)}, to(2, 9)}, {[]api.Span{to(3, 4), to(2, 9), to(1, 2)}, to(1, 9)},
		// Of empty ones, and of those that may not be, nothing is looked at.
		{[]api.Span{zero}, zero}, {[]api.Span{to(5, 5)}, zero}, {[]api.Span{to(5, 5), to(9, 9)}, zero}, {[]api.Span{zero, to(5, 7)}, to(5, 7)}, {[]api.Span{to(5, 7), zero}, to(5, 7)},
		{[]api.Span{to(20, 20), to(5, 7), to(1, 1)}, to(5, 7)}, {[]api.Span{to(-3, 9)}, zero}, {[]api.Span{to(-3, 9), to(5, 7)}, to(5, 7)}, {[]api.Span{to(5, 7), to(9, 3), to(0, api.MaxOff+1)}, to(5, 7)},
		{[]api.Span{to(0, 1), to(api.MaxOff-1, api.MaxOff)}, to(0, api.MaxOff)}, {[]api.Span{to(0, 3), to(1, 2)}, to(0, 3)},
	} {
		was := slices.Clone(c.l)
		if got := span.Hull(c.l...); got != c.want {
			t.Errorf("Hull(%v): %v, not %v", c.l, got, c.want)
		}
		if !slices.Equal(c.l, was) {
			t.Errorf("Hull changed %v to %v", was, c.l)
		}
	}
}

// The least one that holds all: it holds each, and it ends where some of them end.
func TestHullIsTheLeast(t *testing.T) {
	r := rand.New(rand.NewSource(1))
	all := few()
	for range 5000 {
		var l []api.Span
		for range r.Intn(5) {
			l = append(l, all[r.Intn(len(all))])
		}
		want, found := zero, false
		for _, s := range l {
			if none(s) {
				continue
			}
			if !found || s.From < want.From {
				want.From = s.From
			}
			if !found || s.To > want.To {
				want.To = s.To
			}
			found = true
		}
		if got := span.Hull(l...); got != want {
			t.Fatalf("Hull(%v): %v, not %v", l, got, want)
		}
		if got := span.Hull(append(l, to(3, 2))[:len(l)]...); got != want {
			t.Fatalf("Hull(%v): %v, not %v", l, got, want)
		}
	}
}

func TestBelowAndFrom(t *testing.T) {
	for _, c := range []struct {
		s           api.Span
		off         int
		below, from api.Span
	}{
		{to(2, 9), 5, to(2, 5), to(5, 9)}, {to(2, 9), 2, zero, to(2, 9)}, {to(2, 9), 3, to(2, 3), to(3, 9)}, {to(2, 9), 8, to(2, 8), to(8, 9)}, {to(2, 9), 9, to(2, 9), zero},
		{to(2, 9), 0, zero, to(2, 9)}, {to(2, 9), 20, to(2, 9), zero}, {to(2, 9), -1, zero, to(2, 9)}, {to(2, 9), math.MinInt, zero, to(2, 9)}, {to(2, 9), math.MaxInt, to(2, 9), zero},
		{to(5, 5), 3, zero, zero}, {to(5, 5), 5, zero, zero}, {to(5, 5), 9, zero, zero}, {zero, 0, zero, zero},
		{to(-1, 9), 5, zero, zero}, {to(9, 2), 5, zero, zero}, {to(0, api.MaxOff+1), 5, zero, zero},
		{to(0, api.MaxOff), api.MaxOff, to(0, api.MaxOff), zero}, {to(0, api.MaxOff), api.MaxOff - 1, to(0, api.MaxOff-1), to(api.MaxOff-1, api.MaxOff)},
	} {
		if got := span.Below(c.s, c.off); got != c.below {
			t.Errorf("Below(%v, %d): %v, not %v", c.s, c.off, got, c.below)
		}
		if got := span.From(c.s, c.off); got != c.from {
			t.Errorf("From(%v, %d): %v, not %v", c.s, c.off, got, c.from)
		}
	}
}

// P6.6
func TestBelowAndFromAreTheWhole(t *testing.T) {
	for _, s := range few() {
		for _, off := range places() {
			below, from := span.Below(s, off), span.From(s, off)
			mustHave(t, "Below", below, func(at int) bool { return in(s, at) && at < off })
			mustHave(t, "From", from, func(at int) bool { return in(s, at) && at >= off })
			if span.Len(below)+span.Len(from) != span.Len(s) || span.Meet(below, from) != zero {
				t.Fatalf("%v, cut at %d: %v and %v", s, off, below, from)
			}
			if whole := span.Hull(below, from); none(s) && whole != zero || !none(s) && whole != s {
				t.Fatalf("%v, cut at %d: %v and %v are %v", s, off, below, from, whole)
			}
		}
	}
}

// P6.7
func TestHullOfTwoThatTouch(t *testing.T) {
	touched := 0
	for _, s := range few() {
		for _, u := range few() {
			if !span.Touch(s, u) {
				continue
			}
			touched++
			// One after the other is taken off, as the sum of both may lie over the numbers' ends.
			if got, want := span.Len(span.Hull(s, u)), span.Len(s)-span.Len(span.Meet(s, u))+span.Len(u); got != want {
				t.Fatalf("the hull of %v and %v has %d, not %d", s, u, got, want)
			}
		}
	}
	if touched == 0 {
		t.Error("no two touch")
	}
}

func TestCompare(t *testing.T) {
	for _, c := range []struct {
		s, t api.Span
		want int
	}{
		{to(2, 5), to(2, 5), 0}, {zero, zero, 0}, {to(2, 5), to(3, 4), -1}, {to(3, 4), to(2, 5), 1}, {to(2, 5), to(2, 6), -1}, {to(2, 6), to(2, 5), 1}, {to(5, 5), to(5, 6), -1},
		// Spans that may not be are taken as they are.
		{to(-1, 5), zero, -1}, {zero, to(-1, 5), 1}, {to(-1, 5), to(-1, 5), 0}, {to(9, 2), zero, 1}, {to(9, 2), to(9, 1), 1}, {to(9, 2), to(9, 3), -1}, {to(0, -1), zero, -1}, {to(5, 3), to(5, 5), -1},
		{to(math.MinInt, math.MaxInt), to(math.MaxInt, math.MinInt), -1}, {to(math.MaxInt, 0), to(math.MinInt, 0), 1}, {to(0, math.MinInt), to(0, math.MaxInt), -1}, {to(0, math.MaxInt), to(0, math.MinInt), 1},
	} {
		if got := span.Compare(c.s, c.t); got != c.want {
			t.Errorf("Compare(%v, %v): %d, not %d", c.s, c.t, got, c.want)
		}
	}
	// The pairs stand in order already.
	l := pairs()
	for i := range l {
		for j := range l {
			want := 0
			if i < j {
				want = -1
			} else if i > j {
				want = 1
			}
			if got := span.Compare(l[i], l[j]); got != want {
				t.Fatalf("Compare(%v, %v): %d, not %d", l[i], l[j], got, want)
			}
		}
	}
}

func TestCut(t *testing.T) {
	for _, c := range []struct {
		s    api.Span
		size int
		want []api.Span
	}{
		{to(0, 5), 2, []api.Span{to(0, 2), to(2, 4), to(4, 5)}},
		{to(0, 4), 2, []api.Span{to(0, 2), to(2, 4)}},
		{to(3, 6), 1, []api.Span{to(3, 4), to(4, 5), to(5, 6)}},
		{to(3, 6), 3, []api.Span{to(3, 6)}},
		{to(3, 6), 4, []api.Span{to(3, 6)}},
		{to(3, 6), 2, []api.Span{to(3, 5), to(5, 6)}},
		{to(3, 6), math.MaxInt, []api.Span{to(3, 6)}},
		{to(3, 6), 0, nil}, {to(3, 6), -1, nil}, {to(3, 6), math.MinInt, nil},
		{to(3, 3), 2, nil}, {zero, 1, nil}, {to(6, 3), 2, nil}, {to(-2, 3), 2, nil}, {to(0, api.MaxOff+1), api.MaxOff, nil}, {to(math.MinInt, math.MaxInt), math.MaxInt, nil},
		{to(0, api.MaxOff), api.MaxOff, []api.Span{to(0, api.MaxOff)}},
		{to(0, api.MaxOff), api.MaxOff - 1, []api.Span{to(0, api.MaxOff-1), to(api.MaxOff-1, api.MaxOff)}},
		{to(0, api.MaxOff), math.MaxInt, []api.Span{to(0, api.MaxOff)}},
		{to(api.MaxOff-3, api.MaxOff), math.MaxInt, []api.Span{to(api.MaxOff-3, api.MaxOff)}},
		{to(api.MaxOff-3, api.MaxOff), api.MaxOff, []api.Span{to(api.MaxOff-3, api.MaxOff)}},
		{to(api.MaxOff-3, api.MaxOff), 2, []api.Span{to(api.MaxOff-3, api.MaxOff-1), to(api.MaxOff-1, api.MaxOff)}},
		{to(api.MaxOff, api.MaxOff), 1, nil},
	} {
		cut := span.Cut(c.s, c.size)
		// Gone through twice, it is the same.
		for range 2 {
			if got := slices.Collect(cut); !slices.Equal(got, c.want) {
				t.Errorf("Cut(%v, %d): %v, not %v", c.s, c.size, got, c.want)
			}
		}
	}
}

func TestCutIsTheWholeInPieces(t *testing.T) {
	for from := range 4 {
		for n := range 30 {
			for size := 1; size < 34; size++ {
				at, last := from, false
				for p := range span.Cut(to(from, from+n), size) {
					if last || p.From != at || span.Len(p) < 1 || span.Len(p) > size {
						t.Fatalf("%d from %d on, by %d: %v", n, from, size, p)
					}
					at, last = p.To, span.Len(p) < size
				}
				if at != from+n {
					t.Fatalf("%d from %d on, by %d: ends at %d", n, from, size, at)
				}
			}
		}
	}
}

// No more is told once nobody wants more, however much there would be.
func TestCutEndsWhereNobodyWantsMore(t *testing.T) {
	for wanted := 1; wanted < 6; wanted++ {
		var got []api.Span
		calls := 0
		span.Cut(to(10, api.MaxOff), 3)(func(s api.Span) bool {
			calls++
			got = append(got, s)
			return calls < wanted
		})
		if calls != wanted {
			t.Errorf("wanted %d, was told %d", wanted, calls)
		}
		for i, s := range got {
			if s != to(10+3*i, 13+3*i) {
				t.Errorf("piece %d: %v", i, s)
			}
		}
	}
	// At the last piece, too.
	calls := 0
	span.Cut(to(0, 5), 2)(func(api.Span) bool { calls++; return calls < 3 })
	if calls != 3 {
		t.Error(calls)
	}
}

// One that is gone through within another one goes its own way.
func TestCutWithinACut(t *testing.T) {
	cut := span.Cut(to(0, 4), 2)
	var got []api.Span
	for a := range cut {
		for b := range cut {
			got = append(got, a, b)
		}
	}
	if want := []api.Span{to(0, 2), to(0, 2), to(0, 2), to(2, 4), to(2, 4), to(0, 2), to(2, 4), to(2, 4)}; !slices.Equal(got, want) {
		t.Error(got)
	}
}

// A span that may not be is as the zero one.
func TestWhatMayNotBeIsAsTheZeroSpan(t *testing.T) {
	for _, bad := range pairs() {
		if span.May(bad) {
			continue
		}
		if span.Len(bad) != 0 || span.Hull(bad) != zero {
			t.Fatal(bad)
		}
		for _, off := range places() {
			if span.Has(bad, off) || span.Below(bad, off) != zero || span.From(bad, off) != zero || len(slices.Collect(span.Cut(bad, off))) != 0 {
				t.Fatal(bad, off)
			}
		}
		for _, s := range few() {
			if span.Meet(bad, s) != zero || span.Meet(s, bad) != zero || span.Touch(bad, s) || span.Touch(s, bad) || !span.Holds(s, bad) || span.Holds(bad, s) != none(s) {
				t.Fatal(bad, s)
			}
			if span.Hull(bad, s) != span.Hull(s) || span.Hull(s, bad) != span.Hull(s) {
				t.Fatal(bad, s)
			}
		}
	}
}
