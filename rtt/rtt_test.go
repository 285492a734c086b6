package rtt_test

import (
	"math"
	"math/big"
	"math/rand"
	"slices"
	"testing"

	"undertow/api"
	"undertow/rtt"
)

// The calls with the types that the chapter lists.
var (
	_ func(int, int) (*rtt.Est, api.Errno) = rtt.New
	_ func(*rtt.Est, int) api.Errno        = (*rtt.Est).Sample
	_ func(*rtt.Est) bool                  = (*rtt.Est).Backoff
	_ func(*rtt.Est) int                   = (*rtt.Est).Rto
	_ func(*rtt.Est) int                   = (*rtt.Est).Srtt
	_ func(*rtt.Est) int                   = (*rtt.Est).Var
	_ func(*rtt.Est) bool                  = (*rtt.Est).Has
	_ func(*rtt.Est) int                   = (*rtt.Est).Doubled
	_ func(*rtt.Est) *rtt.Est              = (*rtt.Est).Clone
)

// wide is a most that nothing in a test comes near, but where it is said.
const wide = api.MaxRto

// told is all that an estimate is asked for.
type told struct {
	srtt, vary, rto, doubled int
	has                      bool
}

// tell is what an estimate answers.
func tell(e *rtt.Est) told {
	return told{e.Srtt(), e.Var(), e.Rto(), e.Doubled(), e.Has()}
}

// at is an estimate that took these samples.
func at(t *testing.T, least, most int, samples ...int) *rtt.Est {
	t.Helper()
	e, err := rtt.New(least, most)
	if e == nil || err != api.OK {
		t.Fatalf("New(%d, %d): %d", least, most, err)
	}
	for _, r := range samples {
		if err := e.Sample(r); err != api.OK {
			t.Fatalf("Sample(%d): %d", r, err)
		}
	}
	return e
}

// mustTell fails if an estimate answers something else.
func mustTell(t *testing.T, e *rtt.Est, want told) {
	t.Helper()
	if got := tell(e); got != want {
		t.Errorf("%+v, not %+v", got, want)
	}
}

// mustWait fails if Rto is another time.
func mustWait(t *testing.T, e *rtt.Est, want int) {
	t.Helper()
	if got := e.Rto(); got != want {
		t.Errorf("Rto %d, not %d", got, want)
	}
}

// mustDouble fails if Backoff answers something else, or leaves another Rto or Doubled.
func mustDouble(t *testing.T, e *rtt.Est, ok bool, rto, doubled int) {
	t.Helper()
	if got := e.Backoff(); got != ok || e.Rto() != rto || e.Doubled() != doubled {
		t.Errorf("Backoff %t, Rto %d, Doubled %d, not %t, %d, %d", got, e.Rto(), e.Doubled(), ok, rto, doubled)
	}
}

func TestExamples(t *testing.T) {
	e := at(t, 200_000, 60_000_000)
	mustWait(t, e, 1_000_000)
	e.Sample(100_000)
	mustTell(t, e, told{srtt: 100_000, vary: 50_000, rto: 300_000, has: true})
	mustDouble(t, e, true, 600_000, 1)
	// DOC.md, example 4.
	mustWait(t, at(t, 200_000, api.MaxRto, 100_000), 300_000)
}

// P11.1
func TestNew(t *testing.T) {
	for _, c := range []struct{ least, most, rto int }{
		{1, 1, 1}, {1, 2, 2}, {1, wide, 1_000_000}, {wide, wide, wide}, {wide - 1, wide, wide - 1}, {5, 5, 5},
		{999_999, 1_000_001, 1_000_000}, {1_000_000, 1_000_000, 1_000_000}, {1_000_001, wide, 1_000_001}, {1, 999_999, 999_999},
	} {
		mustTell(t, at(t, c.least, c.most), told{rto: c.rto})
	}
	for _, c := range [][2]int{
		{0, 5}, {-1, 5}, {math.MinInt, 5}, {0, 0}, {-5, -3}, {1, wide + 1}, {wide, wide + 1}, {wide + 1, wide + 1}, {1, math.MaxInt}, {math.MaxInt, math.MaxInt},
		{2, 1}, {wide, wide - 1}, {1, 0}, {1, -1}, {1, math.MinInt}, {math.MaxInt, math.MinInt}, {math.MinInt, math.MaxInt}, {math.MinInt, math.MinInt}, {math.MaxInt, 1},
	} {
		if e, err := rtt.New(c[0], c[1]); e != nil || err != api.ErrArg {
			t.Errorf("New(%d, %d): %v, %d", c[0], c[1], e, err)
		}
	}
}

// P11.2
func TestSample(t *testing.T) {
	for _, c := range []struct {
		samples    []int
		srtt, vary int
	}{
		{[]int{0}, 0, 0},
		{[]int{1}, 1, 0},
		{[]int{3}, 3, 1},
		{[]int{100}, 100, 50},
		// Var: 150 and 103, by 4; Srtt: 700 and 203, by 8: both are cut down.
		{[]int{100, 203}, 112, 63},
		// Below what there was: 189 and 112, by 4; 784 and 0, by 8.
		{[]int{100, 203, 0}, 98, 75},
		{[]int{100, 100}, 100, 37},
		{[]int{0, 0}, 0, 0},
		{[]int{0, 1}, 0, 0},
		{[]int{0, 3}, 0, 0},
		{[]int{0, 4}, 0, 1},
		{[]int{0, 8}, 1, 2},
		{[]int{8, 0}, 7, 5},
		// How far Srtt and r are apart is asked of the former Srtt: 0 and 8000, not 1000 and 8000.
		{[]int{0, 8000}, 1000, 2000},
		{[]int{wide}, wide, wide / 2},
		{[]int{wide, wide}, wide, wide / 8 * 3},
		{[]int{wide, 0}, wide / 8 * 7, wide / 8 * 5},
		{[]int{0, wide}, wide / 8, wide / 4},
	} {
		e := at(t, 1, wide, c.samples...)
		if e.Srtt() != c.srtt || e.Var() != c.vary || !e.Has() || e.Doubled() != 0 {
			t.Errorf("%v: Srtt %d, Var %d, Has %t, Doubled %d, not %d, %d", c.samples, e.Srtt(), e.Var(), e.Has(), e.Doubled(), c.srtt, c.vary)
		}
	}
}

// P11.2: what is measured is held by neither least nor most.
func TestSampleBeyondTheTimes(t *testing.T) {
	mustTell(t, at(t, 500, 600, 100), told{srtt: 100, vary: 50, rto: 500, has: true})
	mustTell(t, at(t, 500, 600, 9000), told{srtt: 9000, vary: 4500, rto: 600, has: true})
	mustTell(t, at(t, 500, 600, 9000, 1000), told{srtt: 8000, vary: 5375, rto: 600, has: true})
}

// P11.2: a sample that is refused changes nothing.
func TestSampleRefused(t *testing.T) {
	for _, samples := range [][]int{nil, {100}, {100, 203}} {
		e := at(t, 1, 5000, samples...)
		for range 3 {
			was := tell(e)
			for _, r := range []int{-1, -100, math.MinInt, math.MinInt + 1, wide + 1, math.MaxInt} {
				if err := e.Sample(r); err != api.ErrRange {
					t.Errorf("Sample(%d): %d", r, err)
				}
				mustTell(t, e, was)
			}
			e.Backoff()
		}
	}
}

// P11.3
func TestRto(t *testing.T) {
	for _, c := range []struct {
		least, most int
		samples     []int
		rto         int
	}{
		// 4 times Var is 1 at least.
		{1, wide, []int{0}, 1},
		{1, wide, []int{1}, 2},
		{1, wide, []int{0, 3}, 1},
		{1, wide, []int{2}, 6},
		{1, wide, []int{7}, 19},
		{1, wide, []int{100, 203}, 364},
		// The limits, and what is next to them.
		{299, wide, []int{100}, 300}, {300, wide, []int{100}, 300}, {301, wide, []int{100}, 301},
		{1, 301, []int{100}, 300}, {1, 300, []int{100}, 300}, {1, 299, []int{100}, 299},
		{5, 5, []int{0}, 5}, {5, 5, []int{100}, 5},
		{1, wide, []int{wide}, wide}, {1, wide, []int{wide / 3}, wide/3 + 4*(wide/6)}, {wide, wide, []int{0}, wide},
	} {
		mustWait(t, at(t, c.least, c.most, c.samples...), c.rto)
	}
}

// P11.3
func TestBackoff(t *testing.T) {
	e := at(t, 1, 1300, 100)
	mustWait(t, e, 300)
	mustDouble(t, e, true, 600, 1)
	mustDouble(t, e, true, 1200, 2)
	// Most is no double of it.
	mustDouble(t, e, true, 1300, 3)
	mustDouble(t, e, false, 1300, 3)
	mustDouble(t, e, false, 1300, 3)
	// A sample ends it: what is doubled next is the plain time.
	if e.Sample(100) != api.OK {
		t.Error("Sample")
	}
	mustTell(t, e, told{srtt: 100, vary: 37, rto: 248, has: true})
	mustDouble(t, e, true, 496, 1)

	// Just most; one less; and where the plain time is most.
	e = at(t, 1, 1200, 100)
	mustDouble(t, e, true, 600, 1)
	mustDouble(t, e, true, 1200, 2)
	mustDouble(t, e, false, 1200, 2)
	e = at(t, 1, 601, 100)
	mustDouble(t, e, true, 600, 1)
	mustDouble(t, e, true, 601, 2)
	mustDouble(t, e, false, 601, 2)
	e = at(t, 1, 300, 100)
	mustDouble(t, e, false, 300, 0)
	e = at(t, 7, 7)
	mustDouble(t, e, false, 7, 0)
}

// P11.3: it is doubled without a sample, too, and what is doubled is held by least first.
func TestBackoffOfThePlainTime(t *testing.T) {
	e := at(t, 1, 60_000_000)
	mustDouble(t, e, true, 2_000_000, 1)
	mustDouble(t, e, true, 4_000_000, 2)
	if e.Has() || e.Srtt() != 0 || e.Var() != 0 {
		t.Error("something was measured")
	}
	e = at(t, 1_500_000, 60_000_000)
	mustDouble(t, e, true, 3_000_000, 1)
	e = at(t, 1, 999_999)
	mustDouble(t, e, false, 999_999, 0)
	e = at(t, 200_000, 60_000_000, 1000)
	mustWait(t, e, 200_000)
	mustDouble(t, e, true, 400_000, 1)
}

// P11.3: as often as it can be doubled.
func TestBackoffToTheEnd(t *testing.T) {
	e := at(t, 1, wide, 0)
	for i := 1; i <= 36; i++ {
		mustDouble(t, e, true, 1<<i, i)
	}
	for range 100 {
		mustDouble(t, e, false, wide, 36)
	}
	e = at(t, wide-1, wide)
	mustDouble(t, e, true, wide, 1)
	mustDouble(t, e, false, wide, 1)
}

// model is what an estimate must be, by whole numbers without limits, from all that was done to it.
type model struct {
	least, most, doubled int
	samples              []int
}

// clone is the same model, going its own way.
func (m *model) clone() *model {
	c := *m
	c.samples = slices.Clone(m.samples)
	return &c
}

// part is (times a, and b) by n, cut down.
func part(times int64, a, b *big.Int, n int64) *big.Int {
	sum := new(big.Int).Mul(big.NewInt(times), a)
	return sum.Div(sum.Add(sum, b), big.NewInt(n))
}

// reckon is Srtt and Var.
func (m *model) reckon() (*big.Int, *big.Int) {
	srtt, vary := new(big.Int), new(big.Int)
	for i, sample := range m.samples {
		r := big.NewInt(int64(sample))
		if i == 0 {
			srtt, vary = r, part(0, r, r, 2)
			continue
		}
		apart := new(big.Int).Sub(srtt, r)
		vary = part(3, vary, apart.Abs(apart), 4)
		srtt = part(7, srtt, r, 8)
	}
	return srtt, vary
}

// told is what the estimate must answer.
func (m *model) told() told {
	srtt, vary := m.reckon()
	wait := big.NewInt(1_000_000)
	if len(m.samples) > 0 {
		wait.Mul(big.NewInt(4), vary)
		if wait.Sign() == 0 {
			wait.SetInt64(1)
		}
		wait.Add(wait, srtt)
	}
	if least := big.NewInt(int64(m.least)); wait.Cmp(least) < 0 {
		wait = least
	}
	most := big.NewInt(int64(m.most))
	if wait.Cmp(most) > 0 {
		wait.Set(most)
	}
	for range m.doubled {
		wait.Add(wait, wait)
	}
	if wait.Cmp(most) > 0 {
		wait.Set(most)
	}
	return told{int(srtt.Int64()), int(vary.Int64()), int(wait.Int64()), m.doubled, len(m.samples) > 0}
}

// step does one thing to both, and fails if they answer otherwise.
func step(t *testing.T, rnd *rand.Rand, e *rtt.Est, m *model) {
	t.Helper()
	if rnd.Intn(3) == 0 {
		want := m.told().rto < m.most
		if want {
			m.doubled++
		}
		if got := e.Backoff(); got != want {
			t.Fatalf("Backoff: %t", got)
		}
	} else {
		r := rnd.Intn(1 << rnd.Intn(37))
		if rnd.Intn(20) == 0 {
			r = wide - r
		}
		m.samples, m.doubled = append(m.samples, r), 0
		if err := e.Sample(r); err != api.OK {
			t.Fatalf("Sample(%d): %d", r, err)
		}
	}
	if got, want := tell(e), m.told(); got != want {
		t.Fatalf("%d to %d, %v: %+v, not %+v", m.least, m.most, m.samples, got, want)
	}
}

// mustStayWithin fails if a time is beyond what the samples and the limits let it be.
func mustStayWithin(t *testing.T, e *rtt.Est, m *model) {
	t.Helper()
	if rto := e.Rto(); rto < m.least || rto > m.most {
		t.Fatalf("Rto %d is not from %d to %d", rto, m.least, m.most)
	}
	if len(m.samples) > 0 && (e.Srtt() < slices.Min(m.samples) || e.Srtt() > slices.Max(m.samples)) {
		t.Fatalf("Srtt %d is not within %v", e.Srtt(), m.samples)
	}
}

// P11.2, P11.3, P11.5, P11.6
func TestAnyWay(t *testing.T) {
	rnd := rand.New(rand.NewSource(1))
	for range 300 {
		least := 1 + rnd.Intn(1<<rnd.Intn(37))
		m := &model{least: least, most: min(least+rnd.Intn(1<<rnd.Intn(37)), wide)}
		e := at(t, m.least, m.most)
		for range 60 {
			step(t, rnd, e, m)
			mustStayWithin(t, e, m)
		}
	}
}

// P11.4
func TestClone(t *testing.T) {
	rnd := rand.New(rand.NewSource(2))
	ests, models := []*rtt.Est{at(t, 100, 1<<30)}, []*model{{least: 100, most: 1 << 30}}
	for range 300 {
		i := rnd.Intn(len(ests))
		if len(ests) < 6 && rnd.Intn(10) == 0 {
			ests, models = append(ests, ests[i].Clone()), append(models, models[i].clone())
		}
		step(t, rnd, ests[i], models[i])
		for i := range ests {
			mustTell(t, ests[i], models[i].told())
		}
	}
	if len(ests) < 6 {
		t.Error("too few clones")
	}
	e := at(t, 1, wide)
	if e.Clone() == e {
		t.Error("a clone is the estimate itself")
	}
}

// P11.7
func TestSteady(t *testing.T) {
	for _, r := range []int{0, 1, 2, 3, 7, 100, 123_457, 1 << 35, wide - 1, wide} {
		e := at(t, 1, wide, r)
		for range 100 {
			e.Sample(r)
		}
		mustTell(t, e, told{srtt: r, rto: min(r+1, wide), has: true})
	}
	// However great Var was.
	const r = wide / 8 * 7
	e := at(t, 1, wide, wide, 0)
	if e.Srtt() != r || e.Var() != wide/8*5 {
		t.Fatal(e.Srtt(), e.Var())
	}
	for range 100 {
		e.Sample(r)
	}
	mustTell(t, e, told{srtt: r, rto: r + 1, has: true})
}

// P11.2 to P11.4: of nil
func TestOfNil(t *testing.T) {
	var e *rtt.Est
	for _, r := range []int{0, 5, -5, math.MinInt, math.MaxInt} {
		if err := e.Sample(r); err != api.ErrNil {
			t.Errorf("Sample(%d): %d", r, err)
		}
	}
	if e.Backoff() || e.Clone() != nil {
		t.Error("something is there")
	}
	mustTell(t, e, told{})
}

// Nothing is promised of what the zero value tells, but that each call ends and does not panic.
func TestTheZeroValue(t *testing.T) {
	var e rtt.Est
	for range 100 {
		e.Backoff()
		tell(&e)
		e.Sample(wide)
		tell(e.Clone())
	}
}
