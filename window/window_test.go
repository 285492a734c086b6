package window_test

import (
	"math"
	"math/rand"
	"reflect"
	"testing"

	"undertow/api"
	"undertow/window"
)

// The calls with the types that the chapter lists.
var (
	_ func(int, int, int) (*window.Win, api.Errno) = window.New
	_ func(*window.Win, int)                       = (*window.Win).Grow
	_ func(*window.Win, int) int                   = (*window.Win).Cut
	_ func(*window.Win, int)                       = (*window.Win).Set
	_ func(*window.Win)                            = (*window.Win).Collapse
	_ func(*window.Win, int, int)                  = (*window.Win).Lift
	_ func(*window.Win) int                        = (*window.Win).Cwnd
	_ func(*window.Win) int                        = (*window.Win).Thresh
	_ func(*window.Win) bool                       = (*window.Win).Slow
	_ func(*window.Win) *window.Win                = (*window.Win).Clone
)

func TestNoOtherCalls(t *testing.T) {
	if n := reflect.TypeFor[*window.Win]().NumMethod(); n != 9 {
		t.Errorf("%d methods, not 9", n)
	}
	for _, f := range reflect.VisibleFields(reflect.TypeFor[window.Win]()) {
		if f.IsExported() {
			t.Errorf("field %s", f.Name)
		}
	}
}

// at is a window at its begin.
func at(t *testing.T, mss, start, most int) *window.Win {
	t.Helper()
	w, e := window.New(mss, start, most)
	if w == nil || e != api.OK {
		t.Fatalf("New(%d, %d, %d): %d", mss, start, most, e)
	}
	return w
}

// beyond is a window that is past its threshold, with nothing counted.
func beyond(t *testing.T, mss, cwnd, most int) *window.Win {
	t.Helper()
	w := at(t, mss, cwnd, most)
	w.Cut(0)
	if w.Slow() {
		t.Fatalf("a window of %d is slow", cwnd)
	}
	return w
}

// must fails if a window answers something else.
func must(t *testing.T, w *window.Win, cwnd, thresh int) {
	t.Helper()
	if w.Cwnd() != cwnd || w.Thresh() != thresh || w.Slow() != (cwnd < thresh) {
		t.Errorf("Cwnd %d, Thresh %d, Slow %t, not %d, %d", w.Cwnd(), w.Thresh(), w.Slow(), cwnd, thresh)
	}
}

// mustGrow fails if what came leaves another Cwnd.
func mustGrow(t *testing.T, w *window.Win, acked, cwnd int) {
	t.Helper()
	thresh := w.Thresh()
	w.Grow(acked)
	if w.Cwnd() != cwnd || w.Thresh() != thresh {
		t.Errorf("Grow(%d): Cwnd %d, Thresh %d, not %d, %d", acked, w.Cwnd(), w.Thresh(), cwnd, thresh)
	}
}

func TestExamples(t *testing.T) {
	w := at(t, 10, 20, 1000)
	mustGrow(t, w, 7, 27)
	mustGrow(t, w, 50, 37)
	if n := w.Cut(80); n != 40 {
		t.Errorf("Cut(80): %d, not 40", n)
	}
	w.Set(40)
	mustGrow(t, w, 40, 50)
	must(t, w, 50, 40)
}

// P17.1
func TestNew(t *testing.T) {
	for _, c := range [][3]int{
		{1, 1, 1}, {1, 1, 2}, {1, 2, 2}, {1, 1, api.MaxWindow}, {1, api.MaxWindow, api.MaxWindow},
		{api.MaxMss, api.MaxMss, api.MaxMss}, {api.MaxMss, api.MaxMss, api.MaxWindow}, {api.MaxMss, api.MaxWindow, api.MaxWindow},
		{10, 10, 10}, {10, 20, 1000}, {10, 11, 15},
	} {
		must(t, at(t, c[0], c[1], c[2]), c[1], c[2])
	}
	for _, c := range [][3]int{
		{0, 5, 9}, {-1, 5, 9}, {math.MinInt, 5, 9}, {0, 0, 0}, {-3, -2, -1},
		{api.MaxMss + 1, 5000, 9000}, {math.MaxInt, 5000, 9000}, {math.MaxInt, math.MaxInt, math.MaxInt},
		{10, 9, 20}, {10, 0, 20}, {10, -1, 20}, {10, math.MinInt, 20},
		{10, 21, 20}, {10, math.MaxInt, 20},
		{10, 10, 9}, {10, 9, 9}, {10, 10, 0}, {10, 10, -1}, {10, 10, math.MinInt},
		{10, 20, api.MaxWindow + 1}, {10, api.MaxWindow + 1, api.MaxWindow + 1}, {10, 20, math.MaxInt}, {10, api.MaxWindow + 1, api.MaxWindow},
	} {
		if w, e := window.New(c[0], c[1], c[2]); w != nil || e != api.ErrArg {
			t.Errorf("New(%d, %d, %d): %v, %d", c[0], c[1], c[2], w, e)
		}
	}
}

// P17.2: below the threshold.
func TestGrowSlow(t *testing.T) {
	for _, c := range []struct{ start, acked, cwnd int }{
		{20, 1, 21}, {20, 9, 29}, {20, 10, 30}, {20, 11, 30}, {20, math.MaxInt, 30},
		{20, 0, 20}, {20, -1, 20}, {20, -10, 20}, {20, math.MinInt, 20},
		// Up to most, and no further.
		{90, 10, 100}, {91, 10, 100}, {99, 1, 100}, {99, 2, 100}, {99, math.MaxInt, 100},
	} {
		mustGrow(t, at(t, 10, c.start, 100), c.acked, c.cwnd)
	}
}

// P17.2: at the threshold, not only above, it grows with care; below it goes beyond in one step.
func TestGrowAtTheThreshold(t *testing.T) {
	w := at(t, 10, 50, 1000)
	w.Cut(100)
	must(t, w, 50, 50)
	mustGrow(t, w, 49, 50)
	mustGrow(t, w, 1, 60)

	w.Set(49)
	w.Cut(100)
	must(t, w, 49, 50)
	mustGrow(t, w, 10, 59)
	mustGrow(t, w, 10, 59)
	// What came below the threshold is not counted: 10 were.
	mustGrow(t, w, 48, 59)
	mustGrow(t, w, 1, 69)
}

// P17.2: beyond the threshold.
func TestGrowSteady(t *testing.T) {
	for _, c := range []struct {
		acked []int
		cwnd  int
	}{
		{[]int{1}, 100}, {[]int{99}, 100}, {[]int{100}, 110}, {[]int{99, 1}, 110}, {[]int{50, 49, 1}, 110},
		{[]int{0, -1, math.MinInt}, 100},
		{[]int{99, 0}, 100}, {[]int{99, -5, 1}, 110},
		// No more than a window is counted at once.
		{[]int{101, 109}, 110}, {[]int{101, 110}, 120}, {[]int{1000, 109}, 110}, {[]int{math.MaxInt, 109}, 110}, {[]int{math.MaxInt, math.MaxInt}, 120},
		// What is counted beyond is left: 99 and 100, of which 100 are taken; 99 and 11.
		{[]int{99, 100, 10}, 110}, {[]int{99, 100, 11}, 120},
		// 99 and 110 are counted, of which 110 are taken: once, though much came.
		{[]int{99, 1000, 1000, 20}, 120}, {[]int{99, 1000, 1000, 21}, 130},
	} {
		w := beyond(t, 10, 100, 1000)
		for _, n := range c.acked {
			w.Grow(n)
		}
		if w.Cwnd() != c.cwnd {
			t.Errorf("%v: Cwnd %d, not %d", c.acked, w.Cwnd(), c.cwnd)
		}
	}
}

// P17.2: Cwnd is taken from the count also where it can't grow.
func TestGrowSteadyAtMost(t *testing.T) {
	w := beyond(t, 10, 95, 100)
	mustGrow(t, w, 94, 95)
	mustGrow(t, w, 2, 100)
	mustGrow(t, w, 98, 100)
	// 99 are counted, and then 199, of which 100 are taken: 99 again.
	mustGrow(t, w, 100, 100)
	w.Set(50)
	// 99 and 1, of which 50 are taken; 50 and 1: 60 are wanted.
	mustGrow(t, w, 1, 60)
	mustGrow(t, w, 9, 60)
	mustGrow(t, w, 1, 70)

	w = beyond(t, api.MaxMss, api.MaxWindow, api.MaxWindow)
	mustGrow(t, w, math.MaxInt, api.MaxWindow)
}

// P17.3
func TestCut(t *testing.T) {
	for _, c := range []struct{ mss, most, flight, want int }{
		{10, 1000, 80, 40}, {10, 1000, 81, 40}, {10, 1000, 82, 41}, {10, 1000, 42, 21}, {10, 1000, 41, 20}, {10, 1000, 40, 20}, {10, 1000, 39, 20},
		{10, 1000, 0, 20}, {10, 1000, -1, 20}, {10, 1000, -80, 20}, {10, 1000, math.MinInt, 20},
		{10, 1000, 1998, 999}, {10, 1000, 2000, 1000}, {10, 1000, 2001, 1000}, {10, 1000, 2002, 1000}, {10, 1000, math.MaxInt, 1000},
		{10, api.MaxWindow, api.MaxWindow - 1, api.MaxWindow/2 - 1}, {10, api.MaxWindow, api.MaxWindow, api.MaxWindow / 2},
		{10, api.MaxWindow, api.MaxWindow + 2, api.MaxWindow / 2}, {10, api.MaxWindow, 2 * api.MaxWindow, api.MaxWindow / 2}, {10, api.MaxWindow, math.MaxInt, api.MaxWindow / 2},
		// Twice mss may be more than most.
		{10, 19, 0, 19}, {10, 10, 0, 10}, {10, 10, math.MaxInt, 10}, {10, 20, 0, 20}, {10, 21, 0, 20},
		{1, 1000, 0, 2}, {1, 1000, 5, 2}, {1, 1000, 6, 3}, {api.MaxMss, api.MaxWindow, 8191, 4096}, {api.MaxMss, api.MaxWindow, 8194, 4097},
	} {
		w := at(t, c.mss, c.mss, c.most)
		if n := w.Cut(c.flight); n != c.want {
			t.Errorf("%+v: Cut %d", c, n)
		}
		must(t, w, c.mss, c.want)
	}
}

// P17.3: a threshold that was cut can be cut to more.
func TestCutAgain(t *testing.T) {
	w := at(t, 10, 100, 1000)
	w.Cut(60)
	must(t, w, 100, 30)
	w.Cut(600)
	must(t, w, 100, 300)
}

// P17.3: Cut alone sets the count to 0.
func TestCutCount(t *testing.T) {
	counted := func() *window.Win {
		w := beyond(t, 10, 100, 1000)
		mustGrow(t, w, 99, 100)
		return w
	}
	w := counted()
	w.Cut(0)
	mustGrow(t, w, 99, 100)
	mustGrow(t, w, 1, 110)

	w = counted()
	w.Set(200)
	mustGrow(t, w, 100, 200)
	mustGrow(t, w, 1, 210)

	w = counted()
	w.Collapse()
	w.Set(100)
	mustGrow(t, w, 1, 110)

	w = counted()
	w.Lift(150, 0)
	mustGrow(t, w, 50, 150)
	mustGrow(t, w, 1, 160)

	w = counted()
	w.Collapse()
	mustGrow(t, w, 5, 15)
	w.Set(100)
	mustGrow(t, w, 1, 110)
}

// P17.3
func TestSet(t *testing.T) {
	for _, c := range [][2]int{
		{40, 40}, {10, 10}, {11, 11}, {9, 10}, {0, 10}, {-1, 10}, {math.MinInt, 10},
		{999, 999}, {1000, 1000}, {1001, 1000}, {math.MaxInt, 1000},
	} {
		for _, start := range []int{10, 500, 1000} {
			w := at(t, 10, start, 1000)
			w.Cut(400)
			w.Set(c[0])
			must(t, w, c[1], 200)
		}
	}
}

// P17.3
func TestCollapse(t *testing.T) {
	for _, start := range []int{10, 11, 500, 1000} {
		w := at(t, 10, start, 1000)
		w.Cut(400)
		w.Collapse()
		must(t, w, 10, 200)
		w.Collapse()
		must(t, w, 10, 200)
	}
}

// P17.4, P17.8
func TestLift(t *testing.T) {
	for _, c := range []struct{ cwnd, thresh, wantCwnd, wantThresh int }{
		{100, 200, 100, 200}, {99, 199, 100, 200}, {0, 0, 100, 200}, {-1, -1, 100, 200}, {math.MinInt, math.MinInt, 100, 200},
		{101, 200, 101, 200}, {100, 201, 100, 201}, {150, 0, 150, 200}, {0, 250, 100, 250}, {300, 300, 300, 300},
		{999, 1, 999, 200}, {1000, 1, 1000, 200}, {1001, 1, 1000, 200}, {math.MaxInt, 1, 1000, 200},
		{1, 999, 100, 999}, {1, 1000, 100, 1000}, {1, 1001, 100, 1000}, {1, math.MaxInt, 100, 1000},
		{math.MaxInt, math.MaxInt, 1000, 1000},
	} {
		w := at(t, 10, 100, 1000)
		w.Cut(400)
		w.Lift(c.cwnd, c.thresh)
		must(t, w, c.wantCwnd, c.wantThresh)
	}
}

// P17.5
func TestSlow(t *testing.T) {
	for _, c := range []struct {
		cwnd int
		slow bool
	}{{10, true}, {49, true}, {50, false}, {51, false}, {1000, false}} {
		w := at(t, 10, 10, 1000)
		w.Cut(100)
		w.Set(c.cwnd)
		if w.Slow() != c.slow {
			t.Errorf("Cwnd %d: Slow %t", c.cwnd, w.Slow())
		}
	}
	if at(t, 10, 1000, 1000).Slow() || !at(t, 10, 999, 1000).Slow() {
		t.Error("a new window is slow below most, and only there")
	}
}

// P17.5: a clone has mss, most and the count, too, and goes its own way.
func TestClone(t *testing.T) {
	w := beyond(t, 10, 100, 115)
	w.Grow(99)
	c := w.Clone()
	mustGrow(t, c, 1, 110)
	must(t, w, 100, 20)
	mustGrow(t, c, 110, 115)
	c.Collapse()
	c.Cut(60)
	must(t, c, 10, 30)
	must(t, w, 100, 20)
	mustGrow(t, w, 1, 110)
	w.Lift(0, 1000)
	must(t, w, 110, 115)
	must(t, c, 10, 30)
}

// P17.5
func TestOfNil(t *testing.T) {
	var w *window.Win
	w.Grow(5)
	w.Set(5)
	w.Collapse()
	w.Lift(5, 5)
	if w.Cut(80) != 0 || w.Cwnd() != 0 || w.Thresh() != 0 || w.Slow() || w.Clone() != nil {
		t.Error("nil answers something")
	}
}

// P1: nothing is promised of a zero window, but that no call panics.
func TestZero(t *testing.T) {
	var w window.Win
	w.Grow(5)
	w.Cut(math.MaxInt)
	w.Set(math.MinInt)
	w.Lift(math.MaxInt, math.MaxInt)
	w.Collapse()
	w.Clone().Grow(math.MaxInt)
}

// P17.7
func TestRound(t *testing.T) {
	r := rand.New(rand.NewSource(17))
	for range 3000 {
		mss := 1 + r.Intn(20)
		cwnd := 2*mss + r.Intn(200)
		w := beyond(t, mss, cwnd, api.MaxWindow)
		for range 1 + r.Intn(4) {
			come := w.Cwnd()
			want := come + mss
			for come > 0 {
				if w.Cwnd() != want-mss {
					t.Fatalf("mss %d: Cwnd %d while %d are to come, not %d", mss, w.Cwnd(), come, want-mss)
				}
				n := 1 + r.Intn(come)
				w.Grow(n)
				come -= n
			}
			if w.Cwnd() != want {
				t.Fatalf("mss %d: Cwnd %d, not %d", mss, w.Cwnd(), want)
			}
		}
	}
}

// model is what the chapter says, in words as near as may be.
type model struct{ mss, most, cwnd, thresh, count int }

func (m *model) grow(acked int) {
	switch {
	case acked < 1:
		return
	case m.cwnd < m.thresh:
		if acked > m.mss {
			acked = m.mss
		}
		m.cwnd += acked
	default:
		if acked > m.cwnd {
			acked = m.cwnd
		}
		m.count += acked
		if m.count >= m.cwnd {
			m.count -= m.cwnd
			m.cwnd += m.mss
		}
	}
	if m.cwnd > m.most {
		m.cwnd = m.most
	}
}

func (m *model) cut(flight int) {
	if flight < 0 {
		flight = 0
	}
	if flight > 1<<20 {
		flight = 1 << 20
	}
	m.thresh = flight / 2
	if m.thresh < 2*m.mss {
		m.thresh = 2 * m.mss
	}
	if m.thresh > m.most {
		m.thresh = m.most
	}
	m.count = 0
}

func (m *model) set(n int) {
	m.cwnd = n
	if n < m.mss {
		m.cwnd = m.mss
	}
	if n > m.most {
		m.cwnd = m.most
	}
}

func (m *model) lift(cwnd, thresh int) {
	if cwnd > m.cwnd {
		m.cwnd = cwnd
	}
	if thresh > m.thresh {
		m.thresh = thresh
	}
	if m.cwnd > m.most {
		m.cwnd = m.most
	}
	if m.thresh > m.most {
		m.thresh = m.most
	}
}

// some is a number that is often near one that matters.
func some(r *rand.Rand, m model) int {
	ends := []int{math.MinInt, math.MaxInt, -1, 0, 1, m.mss, m.most, m.cwnd, m.thresh, m.cwnd - m.count, 2 * m.cwnd, 2 * m.thresh, api.MaxWindow, 2 * api.MaxWindow}
	n := ends[r.Intn(len(ends))]
	switch r.Intn(4) {
	case 0:
		return n
	case 1:
		return max(n, math.MinInt+2) - r.Intn(3)
	case 2:
		return min(n, math.MaxInt-2) + r.Intn(3)
	}
	return r.Intn(2*m.cwnd) - m.mss
}

// P17.2 to P17.6, P17.8: a walk beside the model.
func TestWalk(t *testing.T) {
	r := rand.New(rand.NewSource(1))
	for range 400 {
		mss := []int{1, 2, 10, 1000, api.MaxMss}[r.Intn(5)]
		most := min(mss*(1+r.Intn(40))+r.Intn(mss), api.MaxWindow)
		start := mss + r.Intn(most-mss+1)
		w := at(t, mss, start, most)
		m := model{mss: mss, most: most, cwnd: start, thresh: most}
		for range 200 {
			a, b := some(r, m), some(r, m)
			op := r.Intn(9)
			switch op {
			case 0:
				if got := w.Cut(a); got != w.Thresh() {
					t.Fatalf("Cut(%d): %d, Thresh %d", a, got, w.Thresh())
				}
				m.cut(a)
			case 1:
				w.Set(a)
				m.set(a)
			case 2:
				w.Collapse()
				m.cwnd = mss
			case 3:
				w.Lift(a, b)
				m.lift(a, b)
			case 4:
				w.Clone().Grow(a)
				w = w.Clone()
			default:
				w.Grow(a)
				m.grow(a)
			}
			must(t, w, m.cwnd, m.thresh)
			if w.Cwnd() < mss || w.Cwnd() > most || w.Thresh() > most {
				t.Fatalf("Cwnd %d, Thresh %d: beyond %d or %d", w.Cwnd(), w.Thresh(), mss, most)
			}
			if t.Failed() {
				t.Fatalf("op %d of %d, %d: %+v", op, a, b, m)
			}
		}
	}
}
