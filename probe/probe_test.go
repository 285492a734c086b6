package probe_test

import (
	"math"
	"math/big"
	"math/rand"
	"reflect"
	"slices"
	"testing"

	"undertow/api"
	"undertow/probe"
)

// The calls with the types that the chapter lists, and its numbers, which are those of no type.
var (
	_ func(int, bool, bool, int) int                    = probe.Wait
	_ func(*probe.Probe, int, bool) api.Errno           = (*probe.Probe).Start
	_ func(*probe.Probe, int, bool, api.Span, bool) int = (*probe.Probe).Told
	_ func(*probe.Probe) bool                           = (*probe.Probe).Stop
	_ func(*probe.Probe) bool                           = (*probe.Probe).On
	_ func(*probe.Probe) int                            = (*probe.Probe).End
	_ func(*probe.Probe) bool                           = (*probe.Probe).Again
	_ [probe.None]struct{}                              = [0]struct{}{}
	_ [probe.Fine]struct{}                              = [1]struct{}{}
	_ [probe.Lost]struct{}                              = [2]struct{}{}
	_ float64                                           = probe.Lost
)

// zero is the zero span.
var zero = api.Span{}

// to is a span.
func to(from, to int) api.Span {
	return api.Span{From: from, To: to}
}

// answer is an acknowledgement.
type answer struct {
	ack   int
	isDup bool
	dup   api.Span
	bare  bool
}

// state is all that a probe is asked for.
type state struct {
	on    bool
	end   int
	again bool
}

// off is a probe that is off.
var off = state{}

// mustBe fails if a probe answers something else.
func mustBe(t *testing.T, p *probe.Probe, want state) {
	t.Helper()
	if got := (state{p.On(), p.End(), p.Again()}); got != want {
		t.Fatalf("%+v, not %+v", got, want)
	}
}

// mustStart fails if Start answers something else.
func mustStart(t *testing.T, p *probe.Probe, end int, again bool, e api.Errno) {
	t.Helper()
	if got := p.Start(end, again); got != e {
		t.Fatalf("Start(%d, %t): %d, not %d", end, again, got, e)
	}
}

// mustSay fails if Told answers something else.
func mustSay(t *testing.T, p *probe.Probe, a answer, want int) {
	t.Helper()
	if got := p.Told(a.ack, a.isDup, a.dup, a.bare); got != want {
		t.Fatalf("Told(%+v): %d, not %d", a, got, want)
	}
}

// mustStop fails if Stop answers something else.
func mustStop(t *testing.T, p *probe.Probe, want bool) {
	t.Helper()
	if got := p.Stop(); got != want {
		t.Fatalf("Stop: %t", got)
	}
}

// at is a probe that is on.
func at(t *testing.T, end int, again bool) *probe.Probe {
	t.Helper()
	p := new(probe.Probe)
	mustStart(t, p, end, again, api.OK)
	mustBe(t, p, state{true, end, again})
	return p
}

func TestExamples(t *testing.T) {
	mustSay(t, at(t, 20, true), answer{20, true, to(10, 20), false}, probe.Fine)
	mustSay(t, at(t, 20, true), answer{25, false, zero, false}, probe.Lost)
}

// What the calls of a probe are made of are none of its own.
func TestAProbeHasNoOtherCalls(t *testing.T) {
	var got []string
	for m := range reflect.TypeFor[*probe.Probe]().Methods() {
		got = append(got, m.Name)
	}
	slices.Sort(got)
	if want := []string{"Again", "End", "On", "Start", "Stop", "Told"}; !slices.Equal(got, want) {
		t.Error(got)
	}
}

// P16.1
func TestWait(t *testing.T) {
	const most = api.MaxRto
	for _, c := range []struct {
		srtt     int
		has, one bool
		delay    int
		want     int
	}{
		{100, true, false, 7, 200}, {100, true, true, 7, 207}, {100, true, true, 0, 200},
		{1, true, false, 0, 2}, {1, true, true, 1, 3},
		// Nothing was measured: whatever else is told.
		{100, false, false, 7, 1_000_000}, {100, false, true, 7, 1_000_000}, {0, false, true, 0, 1_000_000},
		{math.MaxInt, false, true, math.MaxInt, 1_000_000}, {math.MinInt, false, true, math.MinInt, 1_000_000},
		// 1 at least.
		{0, true, false, 0, 1}, {0, true, false, 9, 1}, {0, true, true, 0, 1}, {0, true, true, 1, 1}, {0, true, true, 2, 2},
		{-1, true, false, 0, 1}, {math.MinInt, true, true, math.MinInt, 1}, {-5, true, true, 9, 9}, {5, true, true, -9, 10}, {-3, true, true, -3, 1},
		// MaxRto at most.
		{most / 2, true, false, 9, most}, {most/2 - 1, true, false, 9, most - 2}, {most/2 - 1, true, true, 1, most - 1},
		{most/2 - 1, true, true, 2, most}, {most/2 - 1, true, true, 3, most}, {most/2 + 1, true, false, 0, most},
		{most, true, false, 0, most}, {most, true, true, most, most}, {most + 1, true, true, most + 1, most}, {math.MaxInt, true, true, math.MaxInt, most},
		{0, true, true, most - 1, most - 1}, {0, true, true, most, most}, {0, true, true, most + 1, most}, {0, true, true, math.MaxInt, most},
		{math.MinInt, true, true, math.MaxInt, most}, {math.MaxInt, true, false, math.MinInt, most},
	} {
		if got := probe.Wait(c.srtt, c.has, c.one, c.delay); got != c.want {
			t.Errorf("Wait(%d, %t, %t, %d): %d, not %d", c.srtt, c.has, c.one, c.delay, got, c.want)
		}
	}
}

// held is a number, or the limit that it is beyond.
func held(n *big.Int, least, most int64) *big.Int {
	switch {
	case n.Cmp(big.NewInt(least)) < 0:
		return big.NewInt(least)
	case n.Cmp(big.NewInt(most)) > 0:
		return big.NewInt(most)
	}
	return n
}

// P16.1: at whatever numbers.
func TestWaitOfAnyTimes(t *testing.T) {
	rnd := rand.New(rand.NewSource(1))
	some := func() int {
		return int(rnd.Uint64()) >> rnd.Intn(64)
	}
	for range 20_000 {
		srtt, one, delay := some(), rnd.Intn(2) == 0, some()
		want := held(big.NewInt(int64(srtt)), 0, api.MaxRto)
		want = new(big.Int).Add(want, want)
		if one {
			want.Add(want, held(big.NewInt(int64(delay)), 0, api.MaxRto))
		}
		want = held(want, 1, api.MaxRto)
		if got := probe.Wait(srtt, true, one, delay); int64(got) != want.Int64() {
			t.Fatalf("Wait(%d, true, %t, %d): %d, not %d", srtt, one, delay, got, want)
		}
	}
}

// P16.2
func TestStart(t *testing.T) {
	for _, again := range []bool{false, true} {
		for _, end := range []int{0, 1, 20, api.MaxOff - 1, api.MaxOff} {
			p := at(t, end, again)
			// It is on: that is said ahead of what may not be, and nothing is changed.
			for _, other := range []int{0, 1, 20, api.MaxOff, -1, math.MinInt, api.MaxOff + 1, math.MaxInt} {
				mustStart(t, p, other, !again, api.ErrState)
				mustBe(t, p, state{true, end, again})
			}
		}
		for _, end := range []int{-1, -20, math.MinInt, api.MaxOff + 1, math.MaxInt} {
			var p probe.Probe
			mustStart(t, &p, end, again, api.ErrRange)
			mustBe(t, &p, off)
			mustStart(t, &p, 5, !again, api.OK)
			mustBe(t, &p, state{true, 5, !again})
		}
	}
}

// P16.2, P16.4
func TestStop(t *testing.T) {
	var p probe.Probe
	mustBe(t, &p, off)
	mustStop(t, &p, false)
	for _, again := range []bool{true, false, true} {
		mustStart(t, &p, 30, again, api.OK)
		mustStop(t, &p, true)
		mustBe(t, &p, off)
		mustStop(t, &p, false)
		mustBe(t, &p, off)
	}
	mustStart(t, &p, 40, false, api.OK)
	mustBe(t, &p, state{true, 40, false})
}

// P16.3: of a probe that was sent just once.
func TestToldOfNewBytes(t *testing.T) {
	for _, dup := range []api.Span{zero, to(10, 20), to(10, 19), to(20, 20)} {
		for _, isDup := range []bool{false, true} {
			for _, bare := range []bool{false, true} {
				for _, ack := range []int{math.MinInt, -1, 0, 10, 19} {
					p := at(t, 20, false)
					mustSay(t, p, answer{ack, isDup, dup, bare}, probe.None)
					mustBe(t, p, state{true, 20, false})
				}
				for _, ack := range []int{20, 21, 1000, api.MaxOff, math.MaxInt} {
					p := at(t, 20, false)
					mustSay(t, p, answer{ack, isDup, dup, bare}, probe.Fine)
					mustBe(t, p, off)
				}
			}
		}
	}
}

// P16.3: of a probe that was sent once more.
func TestToldOfBytesSentAgain(t *testing.T) {
	for _, c := range []struct {
		a    answer
		want int
	}{
		// Both came: it comes once more, whatever the answer says else.
		{answer{20, true, to(10, 20), false}, probe.Fine},
		{answer{20, true, to(19, 20), true}, probe.Fine},
		{answer{20, true, to(0, 20), false}, probe.Fine},
		{answer{19, true, to(10, 20), false}, probe.Fine},
		{answer{0, true, to(10, 20), true}, probe.Fine},
		{answer{-1, true, to(10, 20), false}, probe.Fine},
		{answer{math.MinInt, true, to(10, 20), false}, probe.Fine},
		{answer{25, true, to(10, 20), false}, probe.Fine},
		{answer{math.MaxInt, true, to(10, 20), false}, probe.Fine},
		// What came once more is another one, or none.
		{answer{19, true, to(10, 19), false}, probe.None},
		{answer{19, true, to(10, 21), true}, probe.None},
		{answer{19, true, to(20, 20), false}, probe.None},
		{answer{19, false, to(10, 20), false}, probe.None},
		{answer{19, false, zero, true}, probe.None},
		{answer{math.MinInt, false, zero, true}, probe.None},
		{answer{20, false, to(10, 20), false}, probe.None},
		{answer{20, true, to(10, 19), false}, probe.None},
		{answer{20, true, to(10, 21), false}, probe.None},
		{answer{20, true, to(20, 20), false}, probe.None},
		{answer{20, true, to(20, 30), false}, probe.None},
		// One that may not be is as the zero span, which is empty.
		{answer{20, true, to(-1, 20), false}, probe.None},
		{answer{20, true, to(21, 20), false}, probe.None},
		{answer{20, true, to(math.MinInt, 20), false}, probe.None},
		{answer{21, true, to(-1, 20), false}, probe.Lost},
		// All has come, and nothing tells that both did.
		{answer{20, false, zero, false}, probe.None},
		{answer{20, false, zero, true}, probe.Fine},
		{answer{20, false, to(10, 20), true}, probe.Fine},
		{answer{20, true, to(10, 19), true}, probe.Fine},
		// Something beyond it came.
		{answer{21, false, zero, false}, probe.Lost},
		{answer{21, false, zero, true}, probe.Lost},
		{answer{21, false, to(10, 20), true}, probe.Lost},
		{answer{25, true, to(10, 19), false}, probe.Lost},
		{answer{25, true, to(10, 25), true}, probe.Lost},
		{answer{25, true, to(20, 20), true}, probe.Lost},
		{answer{math.MaxInt, false, zero, false}, probe.Lost},
	} {
		p := at(t, 20, true)
		mustSay(t, p, c.a, c.want)
		if c.want == probe.None {
			mustBe(t, p, state{true, 20, true})
			continue
		}
		mustBe(t, p, off)
		mustSay(t, p, c.a, probe.None)
	}
}

// P16.3: flights that end where the offsets do.
func TestToldAtTheEnds(t *testing.T) {
	mustSay(t, at(t, 0, false), answer{-1, false, zero, true}, probe.None)
	mustSay(t, at(t, 0, false), answer{0, false, zero, false}, probe.Fine)
	mustSay(t, at(t, 0, true), answer{0, true, zero, false}, probe.None)
	mustSay(t, at(t, 0, true), answer{0, true, zero, true}, probe.Fine)
	mustSay(t, at(t, 0, true), answer{0, true, to(-1, 0), false}, probe.None)
	mustSay(t, at(t, 0, true), answer{1, false, zero, false}, probe.Lost)
	mustSay(t, at(t, api.MaxOff, true), answer{0, true, to(0, api.MaxOff), false}, probe.Fine)
	mustSay(t, at(t, api.MaxOff, true), answer{api.MaxOff, false, zero, false}, probe.None)
	mustSay(t, at(t, api.MaxOff, true), answer{api.MaxOff + 1, false, zero, false}, probe.Lost)
	mustSay(t, at(t, api.MaxOff, false), answer{api.MaxOff - 1, false, zero, false}, probe.None)
	mustSay(t, at(t, api.MaxOff, false), answer{api.MaxOff, false, zero, false}, probe.Fine)
}

// P16.3: nothing is said of a probe that is off, and it stays so.
func TestToldWhileOff(t *testing.T) {
	var never probe.Probe
	stopped := at(t, 20, true)
	mustStop(t, stopped, true)
	for _, p := range []*probe.Probe{&never, stopped} {
		for _, ack := range []int{math.MinInt, -1, 0, 1, 20, 25, math.MaxInt} {
			for _, dup := range []api.Span{zero, to(10, 20), to(0, 1)} {
				for i := range 4 {
					mustSay(t, p, answer{ack, i%2 == 0, dup, i/2 == 0}, probe.None)
					mustBe(t, p, off)
				}
			}
		}
	}
}

// says is what an answer says of a probe that is on, as the chapter has it, question by question.
func says(s state, a answer) int {
	empty := a.dup.From < 0 || a.dup.To <= a.dup.From || a.dup.To > api.MaxOff
	if s.again && a.isDup && !empty && a.dup.To == s.end {
		return probe.Fine
	}
	if a.ack < s.end {
		return probe.None
	}
	if !s.again {
		return probe.Fine
	}
	if a.ack > s.end {
		return probe.Lost
	}
	if a.bare {
		return probe.Fine
	}
	return probe.None
}

// somewhere is an answer to something near an offset.
func somewhere(rnd *rand.Rand, near int) answer {
	at := func() int { return near + rnd.Intn(7) - 3 }
	return answer{at(), rnd.Intn(2) == 0, to(at(), at()), rnd.Intn(2) == 0}
}

// P16.2 to P16.6
func TestAnyWay(t *testing.T) {
	rnd := rand.New(rand.NewSource(2))
	seen := map[int]int{}
	var p probe.Probe
	want := off
	for range 100_000 {
		switch rnd.Intn(8) {
		case 0:
			mustStop(t, &p, want.on)
			want = off
		case 1, 2, 3:
			end, again := []int{-1, 0, 1, 2, 20, api.MaxOff - 1, api.MaxOff, api.MaxOff + 1}[rnd.Intn(8)], rnd.Intn(3) > 0
			switch {
			case want.on:
				mustStart(t, &p, end, again, api.ErrState)
			case end < 0 || end > api.MaxOff:
				mustStart(t, &p, end, again, api.ErrRange)
			default:
				mustStart(t, &p, end, again, api.OK)
				want = state{true, end, again}
			}
		default:
			a := somewhere(rnd, want.end)
			said := probe.None
			if want.on {
				said = says(want, a)
			}
			mustSay(t, &p, a, said)
			mustEnd(t, &p, want, a, said)
			if said != probe.None {
				want = off
			}
			seen[said]++
		}
		mustBe(t, &p, want)
	}
	for _, said := range []int{probe.None, probe.Fine, probe.Lost} {
		if seen[said] < 1000 {
			t.Errorf("%d is told %d times", said, seen[said])
		}
	}
}

// mustEnd fails if a probe is told to be lost that was sent just once, or by what is not beyond it, or if what is beyond it leaves it on.
func mustEnd(t *testing.T, p *probe.Probe, was state, a answer, said int) {
	t.Helper()
	if said == probe.Lost && (!was.again || a.ack <= was.end) {
		t.Fatalf("%+v is lost by %+v", was, a)
	}
	if a.ack > was.end && p.On() {
		t.Fatalf("%+v is on behind %+v", was, a)
	}
}

// P16.5: Lost is told once.
func TestLostIsToldOnce(t *testing.T) {
	p := at(t, 20, true)
	mustSay(t, p, answer{19, false, zero, true}, probe.None)
	mustSay(t, p, answer{20, false, zero, false}, probe.None)
	mustSay(t, p, answer{25, false, zero, false}, probe.Lost)
	for range 3 {
		mustSay(t, p, answer{25, false, zero, false}, probe.None)
	}
	mustStart(t, p, 30, true, api.OK)
	mustSay(t, p, answer{25, false, zero, true}, probe.None)
	mustSay(t, p, answer{30, false, zero, true}, probe.Fine)
	mustSay(t, p, answer{31, false, zero, false}, probe.None)
}

// A probe that is copied goes its own way.
func TestACopy(t *testing.T) {
	p := at(t, 20, true)
	c := *p
	mustSay(t, p, answer{25, false, zero, false}, probe.Lost)
	mustBe(t, &c, state{true, 20, true})
	mustSay(t, &c, answer{20, true, to(10, 20), false}, probe.Fine)
	mustBe(t, &c, off)
	mustBe(t, p, off)
}

// P16.4: of nil
func TestOfNil(t *testing.T) {
	var p *probe.Probe
	for _, n := range []int{0, 1, 20, -1, math.MinInt, api.MaxOff, api.MaxOff + 1, math.MaxInt} {
		for i := range 2 {
			mustStart(t, p, n, i == 0, api.ErrNil)
			mustSay(t, p, answer{n, true, to(0, n), i == 0}, probe.None)
			mustSay(t, p, answer{n, false, zero, i == 0}, probe.None)
			mustStop(t, p, false)
			mustBe(t, p, off)
		}
	}
}
