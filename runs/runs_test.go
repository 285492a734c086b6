package runs_test

import (
	"iter"
	"math"
	"math/rand"
	"slices"
	"testing"

	"undertow/api"
	"undertow/runs"
)

// The calls with the types that the chapter lists.
var (
	_ func() *runs.Runs                             = runs.New
	_ func(*runs.Runs, api.Span) (int, api.Errno)   = (*runs.Runs).Add
	_ func(*runs.Runs, api.Span) (int, api.Errno)   = (*runs.Runs).Remove
	_ func(*runs.Runs, int) bool                    = (*runs.Runs).Has
	_ func(*runs.Runs, api.Span) int                = (*runs.Runs).Within
	_ func(*runs.Runs, int) (api.Span, bool)        = (*runs.Runs).Run
	_ func(*runs.Runs, int) (api.Span, bool)        = (*runs.Runs).Next
	_ func(*runs.Runs, int) int                     = (*runs.Runs).Gap
	_ func(*runs.Runs) int                          = (*runs.Runs).Len
	_ func(*runs.Runs) int                          = (*runs.Runs).Bytes
	_ func(*runs.Runs) iter.Seq[api.Span]           = (*runs.Runs).All
	_ func(*runs.Runs, api.Span) iter.Seq[api.Span] = (*runs.Runs).Gaps
	_ func(*runs.Runs) *runs.Runs                   = (*runs.Runs).Clone
	_ func(*runs.Runs, *runs.Runs) bool             = (*runs.Runs).Same
)

var zero api.Span

// to is a span.
func to(from, to int) api.Span {
	return api.Span{From: from, To: to}
}

// bad are spans that may not be.
func bad() []api.Span {
	return []api.Span{
		to(-1, 3), to(-1, -1), to(-5, -2), to(3, 2), to(5, 0), to(0, -1), to(0, api.MaxOff+1), to(api.MaxOff, api.MaxOff+1), to(api.MaxOff+1, api.MaxOff+1),
		to(math.MinInt, math.MaxInt), to(math.MaxInt, math.MinInt), to(math.MinInt, math.MinInt), to(math.MaxInt, math.MaxInt), to(math.MinInt, 5), to(5, math.MaxInt),
	}
}

// model is what a set must be: of the offsets from base on, which are in.
type model struct {
	base int
	in   []bool
}

// has tells whether an offset is in.
func (m model) has(off int) bool {
	return m.base <= off && off-m.base < len(m.in) && m.in[off-m.base]
}

// set puts a span's offsets in, or takes them out, and answers how many that were.
func (m model) set(s api.Span, in bool) int {
	n := 0
	for off := s.From; off < s.To; off++ {
		if m.has(off) != in {
			m.in[off-m.base] = in
			n++
		}
	}
	return n
}

// spans are those of the offsets of s that are in, or that are not, as long as they can be.
func (m model) spans(s api.Span, in bool) []api.Span {
	var l []api.Span
	for off := s.From; off < s.To; off++ {
		if m.has(off) != in {
			continue
		}
		if n := len(l); n > 0 && l[n-1].To == off {
			l[n-1].To++
		} else {
			l = append(l, to(off, off+1))
		}
	}
	return l
}

// whole is the span of all offsets of the model.
func (m model) whole() api.Span {
	return to(m.base, m.base+len(m.in))
}

// places are the offsets of the model, and some beyond.
func (m model) places() []int {
	l := []int{math.MinInt, math.MinInt + 1, -1, 0, m.base - 1, api.MaxOff - 1, api.MaxOff, api.MaxOff + 1, math.MaxInt - 1, math.MaxInt}
	for off := m.base; off <= m.base+len(m.in); off++ {
		l = append(l, off)
	}
	return l
}

// clone is the same model, going its own way.
func (m model) clone() model {
	return model{m.base, slices.Clone(m.in)}
}

// length is how many offsets spans have.
func length(l []api.Span) int {
	n := 0
	for _, s := range l {
		n += s.To - s.From
	}
	return n
}

// mustFind fails if something that is asked for an offset is told otherwise than by the model.
func mustFind(t *testing.T, r *runs.Runs, m model, off int) {
	t.Helper()
	all := m.spans(m.whole(), true)
	run, next, gap := zero, zero, min(max(off, 0), api.MaxOff)
	for _, s := range slices.Backward(all) {
		if s.From <= off && off < s.To {
			run = s
		}
		if off < s.To {
			next = to(max(s.From, off), s.To)
		}
	}
	for m.has(gap) {
		gap++
	}
	if got := r.Has(off); got != m.has(off) {
		t.Fatalf("Has(%d) of %v: %t", off, all, got)
	}
	if got, ok := r.Run(off); got != run || ok != (run != zero) {
		t.Fatalf("Run(%d) of %v: %v, %t", off, all, got, ok)
	}
	if got, ok := r.Next(off); got != next || ok != (next != zero) {
		t.Fatalf("Next(%d) of %v: %v, %t", off, all, got, ok)
	}
	if got := r.Gap(off); got != gap {
		t.Fatalf("Gap(%d) of %v: %d, not %d", off, all, got, gap)
	}
}

// mustBe fails if a set is another one than the model.
func mustBe(t *testing.T, r *runs.Runs, m model) {
	t.Helper()
	want := m.spans(m.whole(), true)
	if got := slices.Collect(r.All()); !slices.Equal(got, want) {
		t.Fatalf("All: %v, not %v", got, want)
	}
	if r.Len() != len(want) || r.Bytes() != length(want) {
		t.Fatalf("of %v Len is %d, Bytes %d", want, r.Len(), r.Bytes())
	}
	for _, off := range m.places() {
		mustFind(t, r, m, off)
	}
}

// mustPart fails if what is asked for a span is told otherwise than by the model.
func mustPart(t *testing.T, r *runs.Runs, m model, s api.Span) {
	t.Helper()
	if got, want := r.Within(s), length(m.spans(s, true)); got != want {
		t.Fatalf("Within(%v) of %v: %d, not %d", s, slices.Collect(r.All()), got, want)
	}
	if got, want := slices.Collect(r.Gaps(s)), m.spans(s, false); !slices.Equal(got, want) {
		t.Fatalf("Gaps(%v) of %v: %v, not %v", s, slices.Collect(r.All()), got, want)
	}
}

// of is a set of spans.
func of(l ...api.Span) *runs.Runs {
	r := runs.New()
	for _, s := range l {
		r.Add(s)
	}
	return r
}

// mustHave fails if a set has other runs than these.
func mustHave(t *testing.T, r *runs.Runs, want ...api.Span) {
	t.Helper()
	if got := slices.Collect(r.All()); !slices.Equal(got, want) {
		t.Errorf("All: %v, not %v", got, want)
	}
	if r.Len() != len(want) || r.Bytes() != length(want) {
		t.Errorf("of %v Len is %d, Bytes %d", want, r.Len(), r.Bytes())
	}
}

// mustTell fails if a call that changes tells something else.
func mustTell(t *testing.T, change func(api.Span) (int, api.Errno), s api.Span, want int, e api.Errno) {
	t.Helper()
	if n, got := change(s); n != want || got != e {
		t.Errorf("%v: %d, %d, not %d, %d", s, n, got, want, e)
	}
}

func TestExample(t *testing.T) {
	r := runs.New()
	mustTell(t, r.Add, to(2, 5), 3, api.OK)
	mustTell(t, r.Add, to(7, 9), 2, api.OK)
	mustHave(t, r, to(2, 5), to(7, 9))
	mustTell(t, r.Add, to(5, 7), 2, api.OK)
	mustHave(t, r, to(2, 9))
	mustTell(t, r.Remove, to(3, 4), 1, api.OK)
	mustHave(t, r, to(2, 3), to(4, 9))
	if n := r.Gap(4); n != 9 {
		t.Error(n)
	}
}

func TestNewHasNothing(t *testing.T) {
	m := model{10, make([]bool, 5)}
	mustBe(t, runs.New(), m)
	mustPart(t, runs.New(), m, m.whole())
	r := runs.New()
	mustTell(t, r.Remove, to(0, api.MaxOff), 0, api.OK)
	mustHave(t, r)
}

func TestAdd(t *testing.T) {
	for _, c := range []struct {
		s    api.Span
		came int
		want []api.Span
	}{
		{to(0, 5), 5, []api.Span{to(0, 5), to(10, 20), to(30, 40), to(50, 60)}},
		{to(0, 9), 9, []api.Span{to(0, 9), to(10, 20), to(30, 40), to(50, 60)}},
		{to(0, 10), 10, []api.Span{to(0, 20), to(30, 40), to(50, 60)}},
		{to(5, 15), 5, []api.Span{to(5, 20), to(30, 40), to(50, 60)}},
		{to(10, 20), 0, []api.Span{to(10, 20), to(30, 40), to(50, 60)}},
		{to(12, 15), 0, []api.Span{to(10, 20), to(30, 40), to(50, 60)}},
		{to(20, 25), 5, []api.Span{to(10, 25), to(30, 40), to(50, 60)}},
		{to(21, 29), 8, []api.Span{to(10, 20), to(21, 29), to(30, 40), to(50, 60)}},
		{to(20, 29), 9, []api.Span{to(10, 29), to(30, 40), to(50, 60)}},
		{to(21, 30), 9, []api.Span{to(10, 20), to(21, 40), to(50, 60)}},
		{to(20, 30), 10, []api.Span{to(10, 40), to(50, 60)}},
		{to(15, 35), 10, []api.Span{to(10, 40), to(50, 60)}},
		{to(9, 41), 12, []api.Span{to(9, 41), to(50, 60)}},
		{to(5, 70), 35, []api.Span{to(5, 70)}},
		{to(20, 50), 20, []api.Span{to(10, 60)}},
		{to(35, 50), 10, []api.Span{to(10, 20), to(30, 60)}},
		{to(60, 61), 1, []api.Span{to(10, 20), to(30, 40), to(50, 61)}},
		{to(61, 62), 1, []api.Span{to(10, 20), to(30, 40), to(50, 60), to(61, 62)}},
		{to(0, api.MaxOff), api.MaxOff - 30, []api.Span{to(0, api.MaxOff)}},
		{to(15, 15), 0, []api.Span{to(10, 20), to(30, 40), to(50, 60)}},
		{to(20, 20), 0, []api.Span{to(10, 20), to(30, 40), to(50, 60)}},
		{to(25, 25), 0, []api.Span{to(10, 20), to(30, 40), to(50, 60)}},
		{to(api.MaxOff, api.MaxOff), 0, []api.Span{to(10, 20), to(30, 40), to(50, 60)}},
	} {
		r := of(to(10, 20), to(50, 60), to(30, 40))
		mustTell(t, r.Add, c.s, c.came, api.OK)
		mustHave(t, r, c.want...)
	}
}

func TestRemove(t *testing.T) {
	for _, c := range []struct {
		s    api.Span
		went int
		want []api.Span
	}{
		{to(0, 10), 0, []api.Span{to(10, 20), to(30, 40), to(50, 60)}},
		{to(0, 11), 1, []api.Span{to(11, 20), to(30, 40), to(50, 60)}},
		{to(10, 20), 10, []api.Span{to(30, 40), to(50, 60)}},
		{to(10, 12), 2, []api.Span{to(12, 20), to(30, 40), to(50, 60)}},
		{to(18, 20), 2, []api.Span{to(10, 18), to(30, 40), to(50, 60)}},
		{to(12, 18), 6, []api.Span{to(10, 12), to(18, 20), to(30, 40), to(50, 60)}},
		{to(20, 30), 0, []api.Span{to(10, 20), to(30, 40), to(50, 60)}},
		{to(19, 31), 2, []api.Span{to(10, 19), to(31, 40), to(50, 60)}},
		{to(15, 55), 20, []api.Span{to(10, 15), to(55, 60)}},
		{to(20, 50), 10, []api.Span{to(10, 20), to(50, 60)}},
		{to(25, 45), 10, []api.Span{to(10, 20), to(50, 60)}},
		{to(5, 35), 15, []api.Span{to(35, 40), to(50, 60)}},
		{to(59, 70), 1, []api.Span{to(10, 20), to(30, 40), to(50, 59)}},
		{to(60, 70), 0, []api.Span{to(10, 20), to(30, 40), to(50, 60)}},
		{to(10, 60), 30, nil},
		{to(0, api.MaxOff), 30, nil},
		{to(15, 15), 0, []api.Span{to(10, 20), to(30, 40), to(50, 60)}},
		{to(10, 10), 0, []api.Span{to(10, 20), to(30, 40), to(50, 60)}},
		{to(25, 25), 0, []api.Span{to(10, 20), to(30, 40), to(50, 60)}},
	} {
		r := of(to(10, 20), to(50, 60), to(30, 40))
		mustTell(t, r.Remove, c.s, c.went, api.OK)
		mustHave(t, r, c.want...)
	}
}

func TestWhatMayNotBeIsRefused(t *testing.T) {
	for _, r := range []*runs.Runs{runs.New(), of(to(0, 4), to(6, 9)), of(to(0, api.MaxOff))} {
		was := r.Clone()
		for _, s := range bad() {
			mustTell(t, r.Add, s, 0, api.ErrRange)
			mustTell(t, r.Remove, s, 0, api.ErrRange)
			if n := r.Within(s); n != 0 {
				t.Errorf("Within(%v): %d", s, n)
			}
			if l := slices.Collect(r.Gaps(s)); len(l) != 0 {
				t.Errorf("Gaps(%v): %v", s, l)
			}
		}
		if !r.Same(was) {
			t.Error("something is changed")
		}
	}
}

// All sets within a few offsets, and all that may be done to them, at both ends of the numbers.
func TestAllSmallSets(t *testing.T) {
	const n = 6
	for _, base := range []int{0, 100, api.MaxOff - n} {
		for bits := range 1 << n {
			r, m := runs.New(), model{base, make([]bool, n)}
			for i := range n {
				if bits>>i&1 == 1 {
					r.Add(to(base+i, base+i+1))
					m.in[i] = true
				}
			}
			mustBe(t, r, m)
			for from := range n + 1 {
				for end := from; end <= n; end++ {
					s := to(base+from, base+end)
					mustPart(t, r, m, s)
					more, mm := r.Clone(), m.clone()
					mustTell(t, more.Add, s, mm.set(s, true), api.OK)
					mustBe(t, more, mm)
					less, lm := r.Clone(), m.clone()
					mustTell(t, less.Remove, s, lm.set(s, false), api.OK)
					mustBe(t, less, lm)
					// P7.4: the same, just if all its offsets are.
					if r.Same(more) != slices.Equal(m.in, mm.in) || more.Same(less) != slices.Equal(mm.in, lm.in) {
						t.Fatal(m, mm, lm)
					}
				}
			}
			mustBe(t, r, m)
		}
	}
}

func TestManyChanges(t *testing.T) {
	rnd := rand.New(rand.NewSource(1))
	for _, base := range []int{0, 1 << 40, api.MaxOff - 60} {
		r, m := runs.New(), model{base, make([]bool, 60)}
		for range 2000 {
			from := rnd.Intn(61)
			s := to(base+from, base+min(60, from+rnd.Intn(9)))
			if rnd.Intn(2) == 0 {
				mustTell(t, r.Add, s, m.set(s, true), api.OK)
			} else {
				mustTell(t, r.Remove, s, m.set(s, false), api.OK)
			}
			mustBe(t, r, m)
			a, b := rnd.Intn(61), rnd.Intn(61)
			mustPart(t, r, m, to(base+min(a, b), base+max(a, b)))
		}
	}
}

func TestGap(t *testing.T) {
	r := of(to(0, 3), to(5, 9), to(api.MaxOff-2, api.MaxOff))
	for _, c := range []struct{ from, want int }{
		{math.MinInt, 3}, {-1, 3}, {0, 3}, {2, 3}, {3, 3}, {4, 4}, {5, 9}, {8, 9}, {9, 9}, {10, 10},
		{api.MaxOff - 3, api.MaxOff - 3}, {api.MaxOff - 2, api.MaxOff}, {api.MaxOff - 1, api.MaxOff}, {api.MaxOff, api.MaxOff}, {api.MaxOff + 1, api.MaxOff}, {math.MaxInt, api.MaxOff},
	} {
		if got := r.Gap(c.from); got != c.want {
			t.Errorf("Gap(%d): %d, not %d", c.from, got, c.want)
		}
	}
	if got := of(to(1, 3)).Gap(-7); got != 0 {
		t.Error(got)
	}
	if got := of(to(0, api.MaxOff)).Gap(-7); got != api.MaxOff {
		t.Error(got)
	}
}

func TestGapsOfAll(t *testing.T) {
	r := of(to(0, 3), to(5, 9), to(api.MaxOff-2, api.MaxOff))
	for _, c := range []struct{ s, first, second api.Span }{
		{to(0, api.MaxOff), to(3, 5), to(9, api.MaxOff-2)}, {to(0, 3), zero, zero}, {to(0, 4), to(3, 4), zero}, {to(4, 5), to(4, 5), zero}, {to(4, 10), to(4, 5), to(9, 10)},
		{to(6, 8), zero, zero}, {to(8, 20), to(9, 20), zero}, {to(20, 30), to(20, 30), zero}, {to(4, 4), zero, zero}, {to(api.MaxOff, api.MaxOff), zero, zero},
	} {
		var want []api.Span
		for _, s := range []api.Span{c.first, c.second} {
			if s != zero {
				want = append(want, s)
			}
		}
		if got := slices.Collect(r.Gaps(c.s)); !slices.Equal(got, want) {
			t.Errorf("Gaps(%v): %v, not %v", c.s, got, want)
		}
	}
}

// full is a set with as many runs as there may be, of three offsets each, with three between: 0 to 3, 6 to 9 and so on.
func full() (r *runs.Runs, last int) {
	r = runs.New()
	for i := range api.MaxRuns {
		r.Add(to(6*i, 6*i+3))
	}
	return r, 6 * (api.MaxRuns - 1)
}

// P7.1: ErrFull
func TestFull(t *testing.T) {
	type change struct {
		s    api.Span
		n    int
		e    api.Errno
		runs int
	}
	_, last := full()
	changes := func(f func(*runs.Runs) func(api.Span) (int, api.Errno), l []change) {
		t.Helper()
		for _, c := range l {
			r, _ := full()
			was := r.Clone()
			mustTell(t, f(r), c.s, c.n, c.e)
			if r.Len() != c.runs || c.e != api.OK && !r.Same(was) {
				t.Errorf("%v: %d runs", c.s, r.Len())
			}
		}
	}
	changes(func(r *runs.Runs) func(api.Span) (int, api.Errno) { return r.Add }, []change{
		{to(4, 5), 0, api.ErrFull, api.MaxRuns},
		{to(last+4, last+5), 0, api.ErrFull, api.MaxRuns},
		{to(api.MaxOff-1, api.MaxOff), 0, api.ErrFull, api.MaxRuns},
		{to(3, 4), 1, api.OK, api.MaxRuns},
		{to(5, 6), 1, api.OK, api.MaxRuns},
		{to(last+3, last+5), 2, api.OK, api.MaxRuns},
		{to(3, 6), 3, api.OK, api.MaxRuns - 1},
		{to(1, 11), 5, api.OK, api.MaxRuns - 1},
		{to(0, last+3), 3 * (api.MaxRuns - 1), api.OK, 1},
		{to(0, 3), 0, api.OK, api.MaxRuns},
		{to(1, 2), 0, api.OK, api.MaxRuns},
		{to(4, 4), 0, api.OK, api.MaxRuns},
		{to(5, 4), 0, api.ErrRange, api.MaxRuns},
	})
	changes(func(r *runs.Runs) func(api.Span) (int, api.Errno) { return r.Remove }, []change{
		{to(1, 2), 0, api.ErrFull, api.MaxRuns},
		{to(last+1, last+2), 0, api.ErrFull, api.MaxRuns},
		{to(0, 1), 1, api.OK, api.MaxRuns},
		{to(2, 3), 1, api.OK, api.MaxRuns},
		{to(2, 7), 2, api.OK, api.MaxRuns},
		{to(1, 8), 4, api.OK, api.MaxRuns},
		{to(1, 14), 7, api.OK, api.MaxRuns - 1},
		{to(0, 3), 3, api.OK, api.MaxRuns - 1},
		{to(0, last+3), 3 * api.MaxRuns, api.OK, 0},
		{to(3, 6), 0, api.OK, api.MaxRuns},
		{to(1, 1), 0, api.OK, api.MaxRuns},
		{to(2, 1), 0, api.ErrRange, api.MaxRuns},
	})
}

// One less than full takes one more, of either kind.
func TestNearlyFull(t *testing.T) {
	r, last := full()
	mustTell(t, r.Remove, to(6, 9), 3, api.OK)
	mustTell(t, r.Remove, to(1, 2), 1, api.OK)
	if r.Len() != api.MaxRuns {
		t.Error(r.Len())
	}
	mustTell(t, r.Remove, to(last+1, last+2), 0, api.ErrFull)
	mustTell(t, r.Add, to(1, 2), 1, api.OK)
	mustTell(t, r.Add, to(7, 8), 1, api.OK)
	mustTell(t, r.Add, to(last+100, last+101), 0, api.ErrFull)
	if r.Len() != api.MaxRuns || r.Bytes() != 3*api.MaxRuns-2 {
		t.Error(r.Len(), r.Bytes())
	}
}

// P7.4
func TestClone(t *testing.T) {
	rnd := rand.New(rand.NewSource(2))
	const n = 30
	sets, models := []*runs.Runs{runs.New()}, []model{{0, make([]bool, n)}}
	for range 2000 {
		i := rnd.Intn(len(sets))
		if len(sets) < 6 && rnd.Intn(30) == 0 {
			sets, models = append(sets, sets[i].Clone()), append(models, models[i].clone())
		}
		from := rnd.Intn(n)
		s := to(from, min(n, from+rnd.Intn(4)))
		if in := rnd.Intn(2) == 0; in {
			sets[i].Add(s)
			models[i].set(s, in)
		} else {
			sets[i].Remove(s)
			models[i].set(s, in)
		}
		for i := range sets {
			if got, want := slices.Collect(sets[i].All()), models[i].spans(to(0, n), true); !slices.Equal(got, want) {
				t.Fatalf("of clone %d All: %v, not %v", i, got, want)
			}
		}
	}
	if len(sets) < 6 {
		t.Error("too few clones")
	}
}

func TestSame(t *testing.T) {
	sets := []*runs.Runs{runs.New(), of(to(2, 5)), of(to(2, 6)), of(to(1, 5)), of(to(2, 5), to(7, 9)), of(to(7, 9)), of(to(2, 9))}
	for i, a := range sets {
		for j, b := range sets {
			if a.Same(b) != (i == j) {
				t.Error(i, j)
			}
		}
	}
	// However it came to be.
	r := of(to(7, 9), to(2, 7), to(20, 30))
	r.Remove(to(5, 7))
	r.Remove(to(0, 3))
	r.Add(to(2, 4))
	r.Remove(to(15, 40))
	if !r.Same(of(to(2, 5), to(7, 9))) {
		t.Error(slices.Collect(r.All()))
	}
}

// P7.1, P7.2, P7.3, P7.4: of nil
func TestOfNil(t *testing.T) {
	var r *runs.Runs
	for _, s := range append(bad(), to(2, 5), to(5, 5)) {
		mustTell(t, r.Add, s, 0, api.ErrNil)
		mustTell(t, r.Remove, s, 0, api.ErrNil)
	}
	// As a set without offsets.
	m := model{3, make([]bool, 4)}
	mustBe(t, r, m)
	mustPart(t, r, m, m.whole())
	mustPart(t, r, m, to(5, 5))
	for _, s := range bad() {
		if n, l := r.Within(s), slices.Collect(r.Gaps(s)); n != 0 || len(l) != 0 {
			t.Error(s, n, l)
		}
	}
	if r.Clone() != nil {
		t.Error("a clone of nil")
	}
	if !r.Same(nil) || !r.Same(runs.New()) || !runs.New().Same(r) || r.Same(of(to(2, 5))) || of(to(2, 5)).Same(r) {
		t.Error("Same")
	}
}

// No more is told once nobody wants more, and what was gone through can be gone through again.
func TestNoMoreThanWanted(t *testing.T) {
	r := of(to(2, 5), to(7, 9), to(12, 13), to(20, 30))
	for _, c := range []struct {
		name string
		s    iter.Seq[api.Span]
		want []api.Span
	}{
		{"All", r.All(), []api.Span{to(2, 5), to(7, 9), to(12, 13), to(20, 30)}},
		{"Gaps", r.Gaps(to(0, 40)), []api.Span{to(0, 2), to(5, 7), to(9, 12), to(13, 20), to(30, 40)}},
		{"Gaps", r.Gaps(to(3, 25)), []api.Span{to(5, 7), to(9, 12), to(13, 20)}},
	} {
		for wanted := 1; wanted <= len(c.want); wanted++ {
			var got []api.Span
			c.s(func(s api.Span) bool {
				got = append(got, s)
				return len(got) < wanted
			})
			if !slices.Equal(got, c.want[:wanted]) {
				t.Errorf("%s, of which %d were wanted: %v", c.name, wanted, got)
			}
		}
		if got := slices.Collect(c.s); !slices.Equal(got, c.want) {
			t.Errorf("%s, once more: %v", c.name, got)
		}
	}
}

// One that is gone through within another one goes its own way.
func TestOneWithinAnother(t *testing.T) {
	r := of(to(2, 5), to(7, 9))
	var got []api.Span
	all, gaps := r.All(), r.Gaps(to(4, 10))
	for a := range all {
		got = append(got, a)
		got = append(got, slices.Collect(gaps)...)
		got = append(got, slices.Collect(all)...)
	}
	want := []api.Span{to(2, 5), to(5, 7), to(9, 10), to(2, 5), to(7, 9), to(7, 9), to(5, 7), to(9, 10), to(2, 5), to(7, 9)}
	if !slices.Equal(got, want) {
		t.Error(got)
	}
}

// Nothing is promised of what is told then, but that it ends and does not panic.
func TestChangesWhileGoneThrough(t *testing.T) {
	r, last := full()
	n := 0
	for s := range r.All() {
		r.Remove(s)
		r.Add(to(s.From+last+1000, s.To+last+1000))
		if n++; n > 10*api.MaxRuns {
			t.Fatal("no end")
		}
	}
	for s := range r.Gaps(to(0, api.MaxOff)) {
		r.Add(s)
		r.Remove(to(s.From, s.From+1))
		if n++; n > 10*api.MaxRuns {
			t.Fatal("no end")
		}
	}
}

// P7.5: the order in which spans are added says nothing.
func TestOrderSaysNothing(t *testing.T) {
	rnd := rand.New(rand.NewSource(3))
	for range 300 {
		var l []api.Span
		for range rnd.Intn(12) {
			from := rnd.Intn(80)
			l = append(l, to(from, from+rnd.Intn(12)))
		}
		r := of(l...)
		for range 5 {
			rnd.Shuffle(len(l), func(i, j int) { l[i], l[j] = l[j], l[i] })
			if o := of(l...); !o.Same(r) || o.Bytes() != r.Bytes() || o.Len() != r.Len() {
				t.Fatalf("%v: %v, not %v", l, slices.Collect(o.All()), slices.Collect(r.All()))
			}
		}
	}
}

// P7.6
func TestRunsAndGapsAreTheSpan(t *testing.T) {
	rnd := rand.New(rand.NewSource(4))
	for range 500 {
		r := runs.New()
		for range rnd.Intn(15) {
			from := rnd.Intn(100)
			r.Add(to(from, from+1+rnd.Intn(6)))
		}
		from := rnd.Intn(100)
		s := to(from, from+rnd.Intn(30))
		gaps := of(slices.Collect(r.Gaps(s))...)
		if gaps.Bytes()+r.Within(s) != s.To-s.From {
			t.Fatal(s, slices.Collect(r.All()), slices.Collect(gaps.All()))
		}
		for g := range gaps.All() {
			if r.Within(g) != 0 {
				t.Fatal(s, slices.Collect(r.All()), g)
			}
		}
		for run := range r.All() {
			gaps.Add(to(min(max(run.From, s.From), s.To), max(min(run.To, s.To), s.From)))
		}
		if s.From < s.To && !gaps.Same(of(s)) {
			t.Fatal(s, slices.Collect(gaps.All()))
		}
	}
}

// Offsets that come in order, and go in order, many times over.
func TestManyOffsets(t *testing.T) {
	r := runs.New()
	for i := range 200_000 {
		mustTell(t, r.Add, to(3*i, 3*i+3), 3, api.OK)
	}
	mustHave(t, r, to(0, 600_000))
	for i := range 200_000 {
		mustTell(t, r.Remove, to(3*i, 3*i+3), 3, api.OK)
	}
	mustHave(t, r)
}
