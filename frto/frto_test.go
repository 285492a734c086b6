package frto_test

import (
	"math/rand"
	"reflect"
	"slices"
	"testing"

	"undertow/frto"
)

// The calls with the types that the chapter lists, and its numbers, which are those of no type.
var (
	_ func(*frto.Frto) bool                  = (*frto.Frto).Start
	_ func(*frto.Frto) bool                  = (*frto.Frto).Stop
	_ func(*frto.Frto, bool, bool, bool) int = (*frto.Frto).Told
	_ func(*frto.Frto) bool                  = (*frto.Frto).Sent
	_ func(*frto.Frto) bool                  = (*frto.Frto).Holds
	_ func(*frto.Frto) int                   = (*frto.Frto).Room
	_ [frto.None]struct{}                    = [0]struct{}{}
	_ [frto.Wait]struct{}                    = [1]struct{}{}
	_ [frto.Spurious]struct{}                = [2]struct{}{}
	_ [frto.Genuine]struct{}                 = [3]struct{}{}
	_ float64                                = frto.Genuine
)

// What the calls of a frto are made of are none of its own.
func TestAFrtoHasNoOtherCalls(t *testing.T) {
	var got []string
	for m := range reflect.TypeFor[*frto.Frto]().Methods() {
		got = append(got, m.Name)
	}
	slices.Sort(got)
	if want := []string{"Holds", "Room", "Sent", "Start", "Stop", "Told"}; !slices.Equal(got, want) {
		t.Error(got)
	}
	for _, f := range reflect.VisibleFields(reflect.TypeFor[frto.Frto]()) {
		if f.IsExported() {
			t.Errorf("field %s", f.Name)
		}
	}
}

// answer is what a frto is told.
type answer struct{ advanced, whole, fresh bool }

// onward is an answer that leads to the second step; oneMore one that tells, there, that the timer rang too early.
var (
	onward  = answer{advanced: true}
	oneMore = answer{advanced: true, fresh: true}
)

// answers are all that there are.
func answers() []answer {
	var l []answer
	for i := range 8 {
		l = append(l, answer{i&1 != 0, i&2 != 0, i&4 != 0})
	}
	return l
}

// mustBe fails if it is asked and answers something else.
func mustBe(t *testing.T, f *frto.Frto, holds bool, room int) {
	t.Helper()
	if f.Holds() != holds || f.Room() != room {
		t.Fatalf("Holds %t, Room %d, not %t, %d", f.Holds(), f.Room(), holds, room)
	}
}

// mustStart fails if Start answers something else, or leaves it otherwise than in its first step.
func mustStart(t *testing.T, f *frto.Frto, want bool) {
	t.Helper()
	if got := f.Start(); got != want {
		t.Fatalf("Start: %t", got)
	}
	mustBe(t, f, true, 0)
}

// mustStop fails if Stop answers something else, or leaves it on.
func mustStop(t *testing.T, f *frto.Frto, want bool) {
	t.Helper()
	if got := f.Stop(); got != want {
		t.Fatalf("Stop: %t", got)
	}
	mustBe(t, f, false, 0)
}

// mustSay fails if Told answers something else, or leaves it otherwise than what it says has it.
func mustSay(t *testing.T, f *frto.Frto, a answer, want int) {
	t.Helper()
	if got := f.Told(a.advanced, a.whole, a.fresh); got != want {
		t.Fatalf("Told(%+v): %d, not %d", a, got, want)
	}
	if want == frto.Wait {
		mustBe(t, f, true, 2)
		return
	}
	mustBe(t, f, false, 0)
}

// mustSend fails if Sent answers something else, or leaves another room.
func mustSend(t *testing.T, f *frto.Frto, want bool, room int) {
	t.Helper()
	holds := f.Holds()
	if got := f.Sent(); got != want {
		t.Fatalf("Sent: %t", got)
	}
	mustBe(t, f, holds, room)
}

// inFirst is one in its first step.
func inFirst(t *testing.T) *frto.Frto {
	t.Helper()
	f := new(frto.Frto)
	mustStart(t, f, true)
	return f
}

// inSecond is one in its second step, in which some new segments went.
func inSecond(t *testing.T, went int) *frto.Frto {
	t.Helper()
	f := inFirst(t)
	mustSay(t, f, onward, frto.Wait)
	for i := range went {
		mustSend(t, f, true, 1-i)
	}
	return f
}

func TestExamples(t *testing.T) {
	f := inFirst(t)
	mustSay(t, f, answer{true, false, false}, frto.Wait)
	mustSend(t, f, true, 1)
	mustSend(t, f, true, 0)
	mustSend(t, f, false, 0)
	mustSay(t, f, answer{true, false, true}, frto.Spurious)
}

// P20.1
func TestAZeroFrtoIsOff(t *testing.T) {
	var f frto.Frto
	mustBe(t, &f, false, 0)
	mustStop(t, &f, false)
	mustStart(t, &f, true)
	mustStop(t, &f, true)
	mustStop(t, &f, false)
	mustStart(t, &f, true)
}

// P20.1: it is in its first step, wherever it was.
func TestStart(t *testing.T) {
	for _, f := range []*frto.Frto{inFirst(t), inSecond(t, 0), inSecond(t, 1), inSecond(t, 2)} {
		mustStart(t, f, false)
		mustSend(t, f, false, 0)
		mustSay(t, f, oneMore, frto.Wait)
		mustSend(t, f, true, 1)
		mustStart(t, f, false)
		mustStop(t, f, true)
		mustStart(t, f, true)
	}
}

// P20.1: nothing is left of it.
func TestStop(t *testing.T) {
	for _, f := range []*frto.Frto{inFirst(t), inSecond(t, 0), inSecond(t, 1), inSecond(t, 2)} {
		mustStop(t, f, true)
		mustStop(t, f, false)
		mustSay(t, f, oneMore, frto.None)
		mustSend(t, f, false, 0)
		mustStart(t, f, true)
		mustSay(t, f, onward, frto.Wait)
	}
}

// P20.2: nothing is said of one that is off, and it stays so.
func TestToldWhileOff(t *testing.T) {
	var never frto.Frto
	stopped, ended := inSecond(t, 1), inSecond(t, 1)
	mustStop(t, stopped, true)
	mustSay(t, ended, oneMore, frto.Spurious)
	for _, f := range []*frto.Frto{&never, stopped, ended} {
		for _, a := range answers() {
			mustSay(t, f, a, frto.None)
		}
		mustStop(t, f, false)
		mustStart(t, f, true)
	}
}

// P20.2
func TestToldInTheFirstStep(t *testing.T) {
	for _, c := range []struct {
		a    answer
		want int
	}{
		{answer{true, false, false}, frto.Wait},
		{answer{true, false, true}, frto.Wait},
		{answer{true, true, false}, frto.Genuine},
		{answer{true, true, true}, frto.Genuine},
		{answer{false, false, false}, frto.Genuine},
		{answer{false, false, true}, frto.Genuine},
		{answer{false, true, false}, frto.Genuine},
		{answer{false, true, true}, frto.Genuine},
	} {
		f := inFirst(t)
		mustSay(t, f, c.a, c.want)
		mustStop(t, f, c.want == frto.Wait)
	}
}

// P20.2: however many went.
func TestToldInTheSecondStep(t *testing.T) {
	for went := range 3 {
		for _, c := range []struct {
			a    answer
			want int
		}{
			{answer{true, false, true}, frto.Spurious},
			{answer{true, true, true}, frto.Spurious},
			{answer{true, false, false}, frto.Genuine},
			{answer{true, true, false}, frto.Genuine},
			{answer{false, false, true}, frto.Genuine},
			{answer{false, true, true}, frto.Genuine},
			{answer{false, false, false}, frto.Genuine},
			{answer{false, true, false}, frto.Genuine},
		} {
			f := inSecond(t, went)
			mustSay(t, f, c.a, c.want)
			mustSay(t, f, c.a, frto.None)
			mustStop(t, f, false)
		}
	}
}

// P20.3
func TestSent(t *testing.T) {
	var never frto.Frto
	mustSend(t, &never, false, 0)
	mustSend(t, inFirst(t), false, 0)
	f := inSecond(t, 2)
	for range 3 {
		mustSend(t, f, false, 0)
	}
	// What did not go takes no room from what may go later.
	mustStart(t, f, false)
	mustSend(t, f, false, 0)
	mustSay(t, f, onward, frto.Wait)
	mustSend(t, f, true, 1)
	mustSend(t, f, true, 0)
	mustSend(t, f, false, 0)
	for _, end := range []answer{oneMore, onward} {
		f = inSecond(t, 1)
		if said := f.Told(end.advanced, end.whole, end.fresh); said == frto.Wait {
			t.Fatal(said)
		}
		mustSend(t, f, false, 0)
	}
}

// model is what the chapter says, in words as near as may be.
type model struct{ step, went int }

func (m *model) room() int {
	if m.step == 2 {
		return 2 - m.went
	}
	return 0
}

func (m *model) told(a answer) int {
	switch m.step {
	case 0:
		return frto.None
	case 1:
		if a.advanced && !a.whole {
			*m = model{step: 2}
			return frto.Wait
		}
	case 2:
		if a.advanced && a.fresh {
			*m = model{}
			return frto.Spurious
		}
	}
	*m = model{}
	return frto.Genuine
}

// ops is how many different things may be done: a Start, a Stop, a Sent, and each answer.
const ops = 11

// do does one of them to both, and fails if they answer otherwise; it tells what an answer said, and whether a new segment went.
func do(t *testing.T, f *frto.Frto, m *model, op int) (int, bool) {
	t.Helper()
	said, went := frto.None, false
	switch op {
	case 0:
		mustStart(t, f, m.step == 0)
		*m = model{step: 1}
	case 1:
		mustStop(t, f, m.step != 0)
		*m = model{}
	case 2:
		if went = m.room() > 0; went {
			m.went++
		}
		mustSend(t, f, went, m.room())
	default:
		a := answers()[op-3]
		said = m.told(a)
		mustSay(t, f, a, said)
	}
	mustBe(t, f, m.step != 0, m.room())
	return said, went
}

// P20.1 to P20.3: whatever is done in a few steps.
func TestEveryWay(t *testing.T) {
	const steps = 5
	var walk func(f frto.Frto, m model, left int)
	walk = func(f frto.Frto, m model, left int) {
		if left == 0 {
			return
		}
		for op := range ops {
			g, n := f, m
			do(t, &g, &n, op)
			walk(g, n, left-1)
		}
	}
	walk(frto.Frto{}, model{}, steps)
}

// P20.4, P20.5
func TestAnyWay(t *testing.T) {
	rnd := rand.New(rand.NewSource(20))
	var f frto.Frto
	var m model
	waits, sent := false, 0 // since the last Start or Stop: the last answer acknowledged more, and Wait was said of it; how many went
	spurious := 0
	for range 200_000 {
		op := rnd.Intn(ops)
		said, went := do(t, &f, &m, op)
		if op < 2 {
			waits, sent = false, 0
		}
		if went {
			sent++
		}
		if sent > 2 {
			t.Fatalf("%d went", sent)
		}
		if said == frto.Spurious {
			spurious++
			if !waits || !answers()[op-3].advanced {
				t.Fatalf("Spurious by %+v, behind a Wait: %t", answers()[op-3], waits)
			}
		}
		if op > 2 {
			waits = said == frto.Wait && answers()[op-3].advanced
		}
	}
	if spurious < 500 {
		t.Errorf("%d times Spurious", spurious)
	}
}

// A frto that is copied goes its own way.
func TestACopy(t *testing.T) {
	f := inSecond(t, 1)
	c := *f
	mustSay(t, f, oneMore, frto.Spurious)
	mustBe(t, &c, true, 1)
	mustSend(t, &c, true, 0)
	mustSay(t, &c, onward, frto.Genuine)
	mustStart(t, &c, true)
	mustBe(t, f, false, 0)
}

// P20.3: of nil
func TestOfNil(t *testing.T) {
	var f *frto.Frto
	for range 2 {
		if f.Start() || f.Stop() || f.Sent() || f.Holds() || f.Room() != 0 {
			t.Error("nil answers something")
		}
		for _, a := range answers() {
			if said := f.Told(a.advanced, a.whole, a.fresh); said != frto.None {
				t.Errorf("Told(%+v): %d", a, said)
			}
		}
	}
}
