package alarm_test

import (
	"math"
	"math/rand"
	"reflect"
	"slices"
	"testing"

	"undertow/alarm"
	"undertow/api"
)

// The calls with the types that the chapter lists.
var (
	_ func(int) (*alarm.Clock, api.Errno)        = alarm.New
	_ func(*alarm.Clock) int                     = (*alarm.Clock).Now
	_ func(*alarm.Clock, int, int) api.Errno     = (*alarm.Clock).Set
	_ func(*alarm.Clock, int) bool               = (*alarm.Clock).Stop
	_ func(*alarm.Clock, int) (int, bool)        = (*alarm.Clock).At
	_ func(*alarm.Clock) (int, int, bool)        = (*alarm.Clock).Next
	_ func(*alarm.Clock, int) ([]int, api.Errno) = (*alarm.Clock).Advance
	_ func(*alarm.Clock) int                     = (*alarm.Clock).Len
	_ func(*alarm.Clock) *alarm.Clock            = (*alarm.Clock).Clone
)

// names is the greatest number of names.
const names = 64

// set is an alarm that is set.
type set struct{ name, at int }

// model is what a clock must be: a list of all alarms by their names, of which one that is below 0 is not set.
type model struct {
	now int
	at  []int
}

// modelOf is a model at 0 whose alarms are not set.
func modelOf(n int) *model {
	return &model{at: slices.Repeat([]int{-1}, n)}
}

// clone is the same model, going its own way.
func (m *model) clone() *model {
	return &model{m.now, slices.Clone(m.at)}
}

// sorted is all alarms that are set, as they ring.
func (m *model) sorted() []set {
	var l []set
	for name, at := range m.at {
		if at >= 0 {
			l = append(l, set{name, at})
		}
	}
	slices.SortStableFunc(l, func(a, b set) int { return a.at - b.at })
	return l
}

// advance lets time go by, and answers the names of what rings.
func (m *model) advance(dt int) []int {
	m.now += dt
	var rang []int
	for _, s := range m.sorted() {
		if s.at <= m.now {
			rang = append(rang, s.name)
			m.at[s.name] = -1
		}
	}
	return rang
}

// at is a clock at a time, with these alarms.
func at(t *testing.T, n, now int, l ...set) *alarm.Clock {
	t.Helper()
	c, e := alarm.New(n)
	if c == nil || e != api.OK {
		t.Fatalf("New(%d): %d", n, e)
	}
	mustRing(t, c, now)
	for _, s := range l {
		mustSet(t, c, s.name, s.at, api.OK)
	}
	return c
}

// mustSet fails if Set answers something else.
func mustSet(t *testing.T, c *alarm.Clock, name, at int, e api.Errno) {
	t.Helper()
	if got := c.Set(name, at); got != e {
		t.Fatalf("Set(%d, %d): %d, not %d", name, at, got, e)
	}
}

// mustRing fails if others ring as time goes by.
func mustRing(t *testing.T, c *alarm.Clock, dt int, want ...int) {
	t.Helper()
	now := c.Now()
	if got, e := c.Advance(dt); !slices.Equal(got, want) || e != api.OK {
		t.Fatalf("Advance(%d): %v, %d, not %v", dt, got, e, want)
	}
	if c.Now() != now+dt {
		t.Fatalf("Now is %d, not %d and %d together", c.Now(), now, dt)
	}
}

// mustRefuse fails if time goes by.
func mustRefuse(t *testing.T, c *alarm.Clock, dt int, e api.Errno) {
	t.Helper()
	if rang, got := c.Advance(dt); len(rang) != 0 || got != e {
		t.Fatalf("Advance(%d): %v, %d, not %d", dt, rang, got, e)
	}
}

// mustStop fails if Stop answers something else.
func mustStop(t *testing.T, c *alarm.Clock, name int, want bool) {
	t.Helper()
	if got := c.Stop(name); got != want {
		t.Fatalf("Stop(%d): %t", name, got)
	}
}

// mustBe fails if a clock tells something else than the model.
func mustBe(t *testing.T, c *alarm.Clock, m *model) {
	t.Helper()
	l := m.sorted()
	if c.Now() != m.now || c.Len() != len(l) {
		t.Fatalf("Now %d, Len %d, not %d, %d", c.Now(), c.Len(), m.now, len(l))
	}
	name, when, ok := c.Next()
	if got := (set{name, when}); ok != (len(l) > 0) || ok && got != l[0] || !ok && got != (set{}) {
		t.Fatalf("Next: %v, %t, of %v", got, ok, l)
	}
	for name, want := range m.at {
		if got, ok := c.At(name); ok != (want >= 0) || got != max(want, 0) {
			t.Fatalf("At(%d): %d, %t, not %d", name, got, ok, want)
		}
	}
}

// mustHave fails if others are set, or the clock shows something else.
func mustHave(t *testing.T, c *alarm.Clock, n, now int, l ...set) {
	t.Helper()
	m := modelOf(n)
	m.now = now
	for _, s := range l {
		m.at[s.name] = s.at
	}
	mustBe(t, c, m)
}

func TestExamples(t *testing.T) {
	c := at(t, 3, 0, set{1, 5}, set{0, 5}, set{2, 3})
	if name, at, ok := c.Next(); name != 2 || at != 3 || !ok {
		t.Error(name, at, ok)
	}
	mustRing(t, c, 5, 2, 0, 1)
}

// The calls that the library's heap needs are none of a clock's.
func TestAClockHasNoOtherCalls(t *testing.T) {
	var got []string
	for m := range reflect.TypeFor[*alarm.Clock]().Methods() {
		got = append(got, m.Name)
	}
	slices.Sort(got)
	if want := []string{"Advance", "At", "Clone", "Len", "Next", "Now", "Set", "Stop"}; !slices.Equal(got, want) {
		t.Error(got)
	}
}

// P13.1
func TestNew(t *testing.T) {
	for _, n := range []int{1, 2, 3, 63, 64} {
		mustHave(t, at(t, n, 0), n, 0)
	}
	for _, n := range []int{0, -1, -64, math.MinInt, 65, 1000, math.MaxInt} {
		if c, e := alarm.New(n); c != nil || e != api.ErrArg {
			t.Errorf("New(%d): %v, %d", n, c, e)
		}
	}
}

// P13.1
func TestSet(t *testing.T) {
	c := at(t, 3, 10)
	mustSet(t, c, 0, 10, api.OK)
	mustSet(t, c, 2, api.MaxOff, api.OK)
	mustHave(t, c, 3, 10, set{0, 10}, set{2, api.MaxOff})
	// Whatever it was: later, earlier, and as it was.
	mustSet(t, c, 0, 50, api.OK)
	mustSet(t, c, 1, 40, api.OK)
	mustHave(t, c, 3, 10, set{0, 50}, set{1, 40}, set{2, api.MaxOff})
	mustSet(t, c, 2, 11, api.OK)
	mustSet(t, c, 2, 11, api.OK)
	mustHave(t, c, 3, 10, set{0, 50}, set{1, 40}, set{2, 11})
	mustRing(t, c, 1, 2)
	mustRing(t, c, 1000, 1, 0)
	mustHave(t, c, 3, 1011)
	// One that rang can be set again.
	mustSet(t, c, 2, 1011, api.OK)
	mustHave(t, c, 3, 1011, set{2, 1011})
}

// P13.1: in the order that is named, and nothing is changed.
func TestSetRefused(t *testing.T) {
	c := at(t, 3, 10, set{0, 12}, set{2, 11})
	for _, name := range []int{-1, 3, 4, 64, math.MinInt, math.MaxInt} {
		for _, at := range []int{9, 10, 12, -1, api.MaxOff, api.MaxOff + 1, math.MinInt, math.MaxInt} {
			mustSet(t, c, name, at, api.ErrKind)
			mustHave(t, c, 3, 10, set{0, 12}, set{2, 11})
		}
	}
	for name := range 3 {
		for _, at := range []int{9, 0, -1, math.MinInt, api.MaxOff + 1, math.MaxInt} {
			mustSet(t, c, name, at, api.ErrRange)
			mustHave(t, c, 3, 10, set{0, 12}, set{2, 11})
		}
	}
	mustSet(t, at(t, names, 0), names-1, 5, api.OK)
	mustSet(t, at(t, names, 0), names, 5, api.ErrKind)
}

// P13.1
func TestStop(t *testing.T) {
	c := at(t, 4, 0, set{0, 7}, set{1, 5}, set{2, 9})
	for _, name := range []int{3, 4, -1, math.MinInt, math.MaxInt} {
		mustStop(t, c, name, false)
		mustHave(t, c, 4, 0, set{0, 7}, set{1, 5}, set{2, 9})
	}
	mustStop(t, c, 1, true)
	mustStop(t, c, 1, false)
	mustHave(t, c, 4, 0, set{0, 7}, set{2, 9})
	mustStop(t, c, 2, true)
	mustHave(t, c, 4, 0, set{0, 7})
	// What is stopped does not ring, and what rang is not set.
	mustRing(t, c, 20, 0)
	mustStop(t, c, 0, false)
	mustHave(t, c, 4, 20)
}

// P13.2: of several that ring first the one with the least name.
func TestNext(t *testing.T) {
	c := at(t, names, 0)
	for name := names - 1; name >= 0; name-- {
		mustSet(t, c, name, 100, api.OK)
		if first, at, ok := c.Next(); first != name || at != 100 || !ok || c.Len() != names-name {
			t.Fatalf("Next: %d, %d, %t, of %d", first, at, ok, c.Len())
		}
	}
	mustSet(t, c, 40, 99, api.OK)
	if first, at, ok := c.Next(); first != 40 || at != 99 || !ok {
		t.Error(first, at, ok)
	}
	mustSet(t, c, 40, 101, api.OK)
	if first, at, ok := c.Next(); first != 0 || at != 100 || !ok {
		t.Error(first, at, ok)
	}
}

// P13.2
func TestAt(t *testing.T) {
	c := at(t, 2, 0, set{1, 0})
	if at, ok := c.At(1); at != 0 || !ok {
		t.Error(at, ok)
	}
	for _, name := range []int{0, 2, -1, 63, 64, math.MinInt, math.MaxInt} {
		if at, ok := c.At(name); at != 0 || ok {
			t.Errorf("At(%d): %d, %t", name, at, ok)
		}
	}
}

// P13.3: the alarms that are set to that time or earlier, not those of the time behind it.
func TestAdvance(t *testing.T) {
	c := at(t, 5, 0, set{0, 10}, set{1, 11}, set{2, 9}, set{3, 0}, set{4, 10})
	mustRing(t, c, 0, 3)
	mustRing(t, c, 0)
	mustRing(t, c, 8)
	mustHave(t, c, 5, 8, set{0, 10}, set{1, 11}, set{2, 9}, set{4, 10})
	mustRing(t, c, 2, 2, 0, 4)
	mustHave(t, c, 5, 10, set{1, 11})
	// One that is set to now rings without a further moment.
	mustSet(t, c, 2, 10, api.OK)
	mustRing(t, c, 0, 2)
	mustRing(t, c, 1, 1)
	mustRing(t, c, 1)
	mustHave(t, c, 5, 12)
}

// P13.3: what is refused changes nothing.
func TestAdvanceRefused(t *testing.T) {
	c := at(t, 2, 7, set{0, 7}, set{1, 8})
	for _, dt := range []int{-1, -7, -8, math.MinInt, math.MinInt + 1, api.MaxOff - 6, api.MaxOff, api.MaxOff + 1, math.MaxInt} {
		mustRefuse(t, c, dt, api.ErrRange)
		mustHave(t, c, 2, 7, set{0, 7}, set{1, 8})
	}
	mustRing(t, c, api.MaxOff-7, 0, 1)
	mustHave(t, c, 2, api.MaxOff)
	for _, dt := range []int{-1, 1, api.MaxOff, math.MaxInt} {
		mustRefuse(t, c, dt, api.ErrRange)
	}
	mustRing(t, c, 0)
}

// P13.1, P13.3: the end of the times.
func TestAtTheEndOfTime(t *testing.T) {
	c := at(t, 3, api.MaxOff-1, set{1, api.MaxOff}, set{0, api.MaxOff}, set{2, api.MaxOff - 1})
	mustSet(t, c, 1, api.MaxOff-2, api.ErrRange)
	mustRing(t, c, 0, 2)
	mustRefuse(t, c, 2, api.ErrRange)
	mustRing(t, c, 1, 0, 1)
	mustSet(t, c, 1, api.MaxOff, api.OK)
	mustSet(t, c, 1, api.MaxOff+1, api.ErrRange)
	mustSet(t, c, 1, api.MaxOff-1, api.ErrRange)
	mustRing(t, c, 0, 1)
	mustHave(t, c, 3, api.MaxOff)
}

// walk does one thing to both, and fails if they answer otherwise.
func walk(t *testing.T, rnd *rand.Rand, c *alarm.Clock, m *model) {
	t.Helper()
	name := rnd.Intn(len(m.at))
	switch rnd.Intn(5) {
	case 0:
		dt := rnd.Intn(6)
		mustRing(t, c, dt, m.advance(dt)...)
	case 1:
		mustStop(t, c, name, m.at[name] >= 0)
		m.at[name] = -1
	default:
		m.at[name] = m.now + rnd.Intn(20)
		mustSet(t, c, name, m.at[name], api.OK)
	}
	mustBe(t, c, m)
}

// mustLieAhead fails if an alarm lies behind the clock.
func mustLieAhead(t *testing.T, c *alarm.Clock) {
	t.Helper()
	for name := range names {
		if at, ok := c.At(name); ok && at < c.Now() {
			t.Fatalf("%d is set to %d, but it is %d", name, at, c.Now())
		}
	}
}

// P13.1 to P13.3, P13.6
func TestAnyWay(t *testing.T) {
	rnd := rand.New(rand.NewSource(1))
	for _, n := range []int{1, 2, 3, 7, 20, names} {
		for range 20 {
			c, m := at(t, n, 0), modelOf(n)
			for range 300 {
				walk(t, rnd, c, m)
				mustLieAhead(t, c)
			}
		}
	}
}

// P13.5: the same alarms ring, in the same order, in whatever steps.
func TestInWhateverSteps(t *testing.T) {
	rnd := rand.New(rand.NewSource(2))
	for range 300 {
		c := at(t, names, 0)
		for range rnd.Intn(200) {
			c.Set(rnd.Intn(names), rnd.Intn(50))
		}
		whole := c.Clone()
		want, e := whole.Advance(40)
		if e != api.OK {
			t.Fatal(e)
		}
		var got []int
		for left := 40; left > 0; {
			dt := rnd.Intn(left + 1)
			left -= dt
			rang, _ := c.Advance(dt)
			got = append(got, rang...)
		}
		if !slices.Equal(got, want) || c.Len() != whole.Len() || c.Now() != whole.Now() {
			t.Fatalf("%v, not %v", got, want)
		}
	}
}

// P13.6: each one rings once, and no one that was not set.
func TestEachRingsOnce(t *testing.T) {
	c := at(t, names, 0)
	for name := range names {
		mustSet(t, c, name, (name*37)%50, api.OK)
	}
	rung := map[int]int{}
	for range 60 {
		rang, _ := c.Advance(1)
		for _, name := range rang {
			rung[name]++
			if at := (name * 37) % 50; at != c.Now() && at+c.Now() != 1 {
				t.Errorf("%d rings at %d, not at %d", name, c.Now(), at)
			}
		}
	}
	for name := range names {
		if rung[name] != 1 {
			t.Errorf("%d rang %d times", name, rung[name])
		}
	}
}

// P13.4
func TestClone(t *testing.T) {
	rnd := rand.New(rand.NewSource(3))
	clocks, models := []*alarm.Clock{at(t, 9, 0)}, []*model{modelOf(9)}
	for range 2000 {
		i := rnd.Intn(len(clocks))
		if len(clocks) < 6 && rnd.Intn(30) == 0 {
			clocks, models = append(clocks, clocks[i].Clone()), append(models, models[i].clone())
		}
		walk(t, rnd, clocks[i], models[i])
		for i := range clocks {
			mustBe(t, clocks[i], models[i])
		}
	}
	if len(clocks) < 6 {
		t.Error("too few clones")
	}
	c := at(t, 9, 0)
	if d := c.Clone(); d == c || d.Set(8, 0) != api.OK || d.Set(9, 0) != api.ErrKind {
		t.Error("a clone has not the same names, or is the clock itself")
	}
}

// What was told is nobody else's: it stays as it is, and may be written to.
func TestWhatRangIsNew(t *testing.T) {
	c := at(t, 3, 0, set{0, 1}, set{1, 1}, set{2, 2})
	first, _ := c.Advance(1)
	first[0], first[1] = 7, 8
	mustHave(t, c, 3, 1, set{2, 2})
	second, _ := c.Advance(1)
	if !slices.Equal(first, []int{7, 8}) || !slices.Equal(second, []int{2}) {
		t.Error(first, second)
	}
}

// P13.4: of nil
func TestOfNil(t *testing.T) {
	var c *alarm.Clock
	for _, n := range []int{0, 1, -1, math.MinInt, math.MaxInt} {
		mustSet(t, c, n, 0, api.ErrNil)
		mustSet(t, c, 0, n, api.ErrNil)
		mustRefuse(t, c, n, api.ErrNil)
		mustStop(t, c, n, false)
		if at, ok := c.At(n); at != 0 || ok {
			t.Errorf("At(%d): %d, %t", n, at, ok)
		}
	}
	mustHave(t, c, 0, 0)
	if c.Clone() != nil {
		t.Error("a clone of nil is something")
	}
}

// Nothing is promised of what the zero value tells, but that each call ends and does not panic.
func TestTheZeroValue(t *testing.T) {
	var c alarm.Clock
	for i := range 3 {
		c.Set(i, i)
		c.At(i)
		c.Next()
		c.Stop(i)
		c.Advance(i)
		c.Clone().Set(i, i)
	}
	if c.Len() != 0 {
		t.Error(c.Len())
	}
}
