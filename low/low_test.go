package low_test

import (
	"math"
	"math/rand"
	"slices"
	"testing"

	"undertow/api"
	"undertow/low"
)

// The calls with the types that the chapter lists.
var (
	_ func(int) (*low.Low, api.Errno)    = low.New
	_ func(*low.Low, int, int) api.Errno = (*low.Low).Add
	_ func(*low.Low, int) (int, bool)    = (*low.Low).Min
	_ func(*low.Low) int                 = (*low.Low).Len
	_ func(*low.Low) int                 = (*low.Low).Last
	_ func(*low.Low) *low.Low            = (*low.Low).Clone
)

// came is a value, and when it came.
type came struct{ at, v int }

// model is all that came.
type model struct {
	window, last int
	all          []came
}

// add takes a value.
func (m *model) add(now, v int) {
	m.all = append(m.all, came{now, v})
	m.last = now
}

// clone is the same model, going its own way.
func (m *model) clone() *model {
	return &model{m.window, m.last, slices.Clone(m.all)}
}

// min is what Min must answer.
func (m *model) min(now int) (int, bool) {
	least, ok := 0, false
	if now < m.last || now > api.MaxOff {
		return 0, false
	}
	for _, c := range m.all {
		if now-c.at < m.window && (!ok || c.v < least) {
			least, ok = c.v, true
		}
	}
	return least, ok
}

// len is what Len must answer.
func (m *model) len() int {
	n := 0
	for i, c := range m.all {
		behind := m.all[i+1:]
		if m.last-c.at < m.window && !slices.ContainsFunc(behind, func(o came) bool { return o.v <= c.v }) {
			n++
		}
	}
	return n
}

// at is one with a window to which these values came.
func at(t *testing.T, window int, l ...came) *low.Low {
	t.Helper()
	one, e := low.New(window)
	if one == nil || e != api.OK {
		t.Fatalf("New(%d): %d", window, e)
	}
	for _, c := range l {
		mustAdd(t, one, c.at, c.v, api.OK)
	}
	return one
}

// mustAdd fails if Add answers something else.
func mustAdd(t *testing.T, l *low.Low, now, v int, e api.Errno) {
	t.Helper()
	if got := l.Add(now, v); got != e {
		t.Fatalf("Add(%d, %d): %d, not %d", now, v, got, e)
	}
}

// mustMin fails if Min is none, or another value.
func mustMin(t *testing.T, l *low.Low, now, want int) {
	t.Helper()
	if got, ok := l.Min(now); got != want || !ok {
		t.Errorf("Min(%d): %d, %t, not %d", now, got, ok, want)
	}
}

// mustNone fails if Min is a value.
func mustNone(t *testing.T, l *low.Low, nows ...int) {
	t.Helper()
	for _, now := range nows {
		if got, ok := l.Min(now); got != 0 || ok {
			t.Errorf("Min(%d): %d, %t, not none", now, got, ok)
		}
	}
}

// mustKeep fails if Len or Last is another number.
func mustKeep(t *testing.T, l *low.Low, n, last int) {
	t.Helper()
	if l.Len() != n || l.Last() != last {
		t.Errorf("Len %d, Last %d, not %d, %d", l.Len(), l.Last(), n, last)
	}
}

// mustBe fails if one answers otherwise than the model, now or later, up to where nothing is left.
func mustBe(t *testing.T, l *low.Low, m *model) {
	t.Helper()
	if l.Len() != m.len() || l.Last() != m.last {
		t.Fatalf("%v: Len %d, Last %d, not %d, %d", m.all, l.Len(), l.Last(), m.len(), m.last)
	}
	for now := m.last - 2; now <= m.last+m.window+1; now++ {
		want, ok := m.min(now)
		if got, is := l.Min(now); got != want || is != ok {
			t.Fatalf("window %d, %v: Min(%d): %d, %t, not %d, %t", m.window, m.all, now, got, is, want, ok)
		}
	}
}

func TestExamples(t *testing.T) {
	l := at(t, 10, came{0, 5}, came{3, 7})
	mustMin(t, l, 9, 5)
	mustMin(t, l, 10, 7)
	mustNone(t, l, 13)
}

// P12.1
func TestNew(t *testing.T) {
	for _, window := range []int{1, 2, 10, 10_000_000, 1 << 40, api.MaxOff - 1, api.MaxOff} {
		l := at(t, window)
		mustKeep(t, l, 0, 0)
		mustNone(t, l, 0, 1, 5, api.MaxOff, api.MaxOff+1, -1, math.MinInt, math.MaxInt)
	}
	for _, window := range []int{0, -1, -10, math.MinInt, api.MaxOff + 1, math.MaxInt} {
		if l, e := low.New(window); l != nil || e != api.ErrArg {
			t.Errorf("New(%d): %v, %d", window, l, e)
		}
	}
}

// P12.1
func TestAdd(t *testing.T) {
	l := at(t, 10)
	mustAdd(t, l, 0, 5, api.OK)
	mustKeep(t, l, 1, 0)
	mustAdd(t, l, 0, 0, api.OK)
	mustKeep(t, l, 1, 0)
	mustAdd(t, l, 7, api.MaxOff, api.OK)
	mustKeep(t, l, 2, 7)
	mustAdd(t, l, 7, api.MaxOff-1, api.OK)
	mustKeep(t, l, 2, 7)
	mustAdd(t, l, api.MaxOff, 3, api.OK)
	mustKeep(t, l, 1, api.MaxOff)
	mustAdd(t, l, api.MaxOff, 4, api.OK)
	mustKeep(t, l, 2, api.MaxOff)
}

// P12.1: what is refused changes nothing.
func TestAddRefused(t *testing.T) {
	refused := []came{
		{6, 1}, {0, 1}, {-1, 1}, {math.MinInt, 1}, {api.MaxOff + 1, 1}, {math.MaxInt, 1}, {6, -1}, {math.MaxInt, math.MaxInt},
		{7, -1}, {7, math.MinInt}, {7, api.MaxOff + 1}, {7, math.MaxInt}, {100, -1}, {100, api.MaxOff + 1}, {api.MaxOff, -1},
	}
	l := at(t, 10, came{3, 5}, came{7, 9})
	for _, c := range refused {
		mustAdd(t, l, c.at, c.v, api.ErrRange)
		mustKeep(t, l, 2, 7)
		mustMin(t, l, 7, 5)
		mustMin(t, l, 13, 9)
	}
	l = at(t, 10)
	for _, c := range []came{{-1, 5}, {math.MinInt, 5}, {0, -1}, {5, -1}, {5, api.MaxOff + 1}, {api.MaxOff + 1, 5}} {
		mustAdd(t, l, c.at, c.v, api.ErrRange)
		mustKeep(t, l, 0, 0)
		mustNone(t, l, 0, 5)
	}
}

// P12.2: less than the window ahead, not as much.
func TestMin(t *testing.T) {
	l := at(t, 10, came{5, 3}, came{8, 4}, came{8, 6}, came{12, 20})
	mustKeep(t, l, 4, 12)
	for _, c := range []struct{ now, want int }{{12, 3}, {14, 3}, {15, 4}, {17, 4}, {18, 20}, {21, 20}} {
		mustMin(t, l, c.now, c.want)
	}
	mustNone(t, l, 22, 23, 1000, api.MaxOff)
	// Now is below Last, or above the end.
	mustNone(t, l, 11, 8, 5, 0, -1, math.MinInt, api.MaxOff+1, math.MaxInt)
}

// P12.2: what is asked for later is told by what came, not by what was asked for ahead.
func TestMinChangesNothing(t *testing.T) {
	l := at(t, 10, came{5, 3}, came{8, 4})
	mustNone(t, l, 18, api.MaxOff, 0, -1)
	mustMin(t, l, 15, 4)
	mustMin(t, l, 14, 3)
	mustMin(t, l, 8, 3)
	mustKeep(t, l, 2, 8)
	mustAdd(t, l, 14, 9, api.OK)
	mustMin(t, l, 14, 3)
	mustKeep(t, l, 3, 14)
}

// P12.1, P12.2: the least and the greatest window, and the ends of the times.
func TestEnds(t *testing.T) {
	l := at(t, 1, came{0, 5}, came{0, 7})
	mustMin(t, l, 0, 5)
	mustNone(t, l, 1)
	mustAdd(t, l, 1, 9, api.OK)
	mustMin(t, l, 1, 9)
	mustKeep(t, l, 1, 1)

	l = at(t, api.MaxOff, came{0, 0}, came{1, 1}, came{api.MaxOff - 1, api.MaxOff})
	mustKeep(t, l, 3, api.MaxOff-1)
	mustMin(t, l, api.MaxOff-1, 0)
	mustMin(t, l, api.MaxOff, 1)
	mustNone(t, l, api.MaxOff+1)
	mustAdd(t, l, api.MaxOff, api.MaxOff, api.OK)
	mustKeep(t, l, 2, api.MaxOff)
	mustMin(t, l, api.MaxOff, 1)
	mustAdd(t, l, api.MaxOff, 0, api.OK)
	mustKeep(t, l, 1, api.MaxOff)
	mustMin(t, l, api.MaxOff, 0)
}

// P12.3: Len is by Last, and a value that is no less than one behind it does not count.
func TestLen(t *testing.T) {
	for _, c := range []struct {
		all []came
		n   int
	}{
		{[]came{{0, 1}, {1, 2}, {2, 3}}, 3},
		{[]came{{0, 3}, {1, 2}, {2, 1}}, 1},
		{[]came{{0, 2}, {1, 2}, {2, 2}}, 1},
		{[]came{{0, 1}, {1, 3}, {2, 2}}, 2},
		{[]came{{0, 1}, {1, 3}, {2, 3}}, 2},
		{[]came{{0, 2}, {1, 3}, {2, 1}}, 1},
		{[]came{{0, 1}, {0, 2}, {0, 3}}, 3},
		{[]came{{0, 2}, {0, 1}, {0, 2}}, 2},
		{[]came{{0, 1}, {9, 2}, {9, 3}}, 3},
		{[]came{{0, 1}, {9, 2}, {10, 3}}, 2},
		{[]came{{0, 1}, {9, 2}, {18, 3}}, 2},
		{[]came{{0, 1}, {9, 2}, {19, 3}}, 1},
		{[]came{{0, 1}, {1, 2}, {100, 0}}, 1},
	} {
		l := at(t, 10, c.all...)
		mustKeep(t, l, c.n, c.all[len(c.all)-1].at)
	}
}

// walk is something that comes to both.
func walk(t *testing.T, rnd *rand.Rand, l *low.Low, m *model) {
	t.Helper()
	now := m.last
	switch rnd.Intn(12) {
	case 0:
		now += rnd.Intn(2*m.window + 2)
	case 1, 2, 3:
	default:
		now += rnd.Intn(3)
	}
	v := rnd.Intn(8)
	if rnd.Intn(2) == 0 {
		v += now
	}
	mustAdd(t, l, now, v, api.OK)
	m.add(now, v)
	least, _ := m.min(now)
	mustMin(t, l, now, least)
	if v == least {
		mustKeep(t, l, 1, now)
	}
}

// P12.1 to P12.5
func TestAnyWay(t *testing.T) {
	rnd := rand.New(rand.NewSource(1))
	for _, window := range []int{1, 2, 3, 10, 40} {
		for range 20 {
			l, m := at(t, window), &model{window: window}
			for range 60 {
				walk(t, rnd, l, m)
				mustBe(t, l, m)
			}
		}
	}
}

// P12.4: without a further value the least one rises, till there is none.
func TestMinRises(t *testing.T) {
	rnd := rand.New(rand.NewSource(2))
	for range 100 {
		l, m := at(t, 30), &model{window: 30}
		for range 40 {
			walk(t, rnd, l, m)
		}
		was := 0
		for now := l.Last(); now < l.Last()+30; now++ {
			v, ok := l.Min(now)
			if !ok || v < was {
				t.Fatalf("Min(%d): %d, %t, behind %d", now, v, ok, was)
			}
			was = v
		}
		mustNone(t, l, l.Last()+30)
	}
}

// P12.5
func TestTheLeastAtOnce(t *testing.T) {
	l := at(t, 1000)
	for i := range 500 {
		v := 1000 - i/2
		mustAdd(t, l, i, v, api.OK)
		mustMin(t, l, i, v)
		mustKeep(t, l, 1, i)
	}
}

// P12.3
func TestClone(t *testing.T) {
	rnd := rand.New(rand.NewSource(3))
	lows, models := []*low.Low{at(t, 25)}, []*model{{window: 25}}
	for range 600 {
		i := rnd.Intn(len(lows))
		if len(lows) < 6 && rnd.Intn(20) == 0 {
			lows, models = append(lows, lows[i].Clone()), append(models, models[i].clone())
		}
		walk(t, rnd, lows[i], models[i])
		for i := range lows {
			mustBe(t, lows[i], models[i])
		}
	}
	if len(lows) < 6 {
		t.Error("too few clones")
	}
}

// P12.3: neither the one nor the other writes where the other one's values stand.
func TestCloneStandsByItself(t *testing.T) {
	l := at(t, 100)
	for i := range 20 {
		mustAdd(t, l, i, 2*i, api.OK)
		c, d := l.Clone(), l.Clone()
		mustAdd(t, c, i, 0, api.OK)
		mustAdd(t, d, i+1, 2*i+1, api.OK)
		mustKeep(t, c, 1, i)
		mustKeep(t, d, i+2, i+1)
		mustKeep(t, l, i+1, i)
		mustMin(t, c, i, 0)
		mustMin(t, d, 100+i, 2*i+1)
		mustMin(t, l, 99+i, 2*i)
		mustNone(t, l, 100+i)
	}
}

// P12.1 to P12.3: of nil
func TestOfNil(t *testing.T) {
	var l *low.Low
	for _, n := range []int{0, 5, -5, math.MinInt, math.MaxInt} {
		mustAdd(t, l, n, n, api.ErrNil)
		mustAdd(t, l, 0, n, api.ErrNil)
		mustNone(t, l, n)
	}
	mustKeep(t, l, 0, 0)
	if l.Clone() != nil {
		t.Error("a clone of nil is something")
	}
}

// Nothing is promised of what the zero value tells, but that each call ends and does not panic.
func TestTheZeroValue(t *testing.T) {
	var l low.Low
	for i := range 100 {
		l.Add(i, i%7)
		l.Min(i)
		l.Len()
		l.Last()
		l.Clone().Add(i, 0)
	}
}

// A long way: each value goes through but once, however many are within the window.
func TestALongWay(t *testing.T) {
	const window, n = 100_000, 1_000_000
	l := at(t, window)
	for i := range n {
		mustAdd(t, l, i, i, api.OK)
		mustMin(t, l, i, max(i-window+1, 0))
		mustMin(t, l, i+window/2, max(i-window/2+1, 0))
	}
	mustKeep(t, l, window, n-1)
	mustAdd(t, l, n, 0, api.OK)
	mustKeep(t, l, 1, n)
	// Now they rise again and again, by a few.
	for i := range n {
		mustAdd(t, l, n+window+i, i%1000, api.OK)
		mustKeep(t, l, i%1000+1, n+window+i)
	}
}
