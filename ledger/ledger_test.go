package ledger_test

import (
	"math"
	"math/rand"
	"reflect"
	"slices"
	"testing"

	"undertow/api"
	"undertow/ledger"
)

// The calls with the types that the chapter lists.
var (
	_ func() *ledger.Ledger                    = ledger.New
	_ func(*ledger.Ledger, int, int) bool      = (*ledger.Ledger).Cut
	_ func(*ledger.Ledger, api.Span) api.Errno = (*ledger.Ledger).Again
	_ func(*ledger.Ledger, api.Span) bool      = (*ledger.Ledger).Dup
	_ func(*ledger.Ledger) (int, int, bool)    = (*ledger.Ledger).Undo
	_ func(*ledger.Ledger) (int, int, bool)    = (*ledger.Ledger).Force
	_ func(*ledger.Ledger) bool                = (*ledger.Ledger).Open
	_ func(*ledger.Ledger) int                 = (*ledger.Ledger).Pending
	_ func(*ledger.Ledger) bool                = (*ledger.Ledger).Spilt
	_ func(*ledger.Ledger) *ledger.Ledger      = (*ledger.Ledger).Clone
)

// What the calls of a ledger are made of are none of its own.
func TestALedgerHasNoOtherCalls(t *testing.T) {
	var got []string
	for m := range reflect.TypeFor[*ledger.Ledger]().Methods() {
		got = append(got, m.Name)
	}
	slices.Sort(got)
	if want := []string{"Again", "Clone", "Cut", "Dup", "Force", "Open", "Pending", "Spilt", "Undo"}; !slices.Equal(got, want) {
		t.Error(got)
	}
	for _, f := range reflect.VisibleFields(reflect.TypeFor[ledger.Ledger]()) {
		if f.IsExported() {
			t.Errorf("field %s", f.Name)
		}
	}
}

// to is a span.
func to(from, to int) api.Span {
	return api.Span{From: from, To: to}
}

// never are spans that may not be.
func never() []api.Span {
	return []api.Span{to(-1, 5), to(-5, -1), to(-1, 0), to(5, 4), to(1, 0), to(0, api.MaxOff+1), to(api.MaxOff, api.MaxOff+1), to(0, math.MaxInt), to(math.MinInt, math.MaxInt), to(math.MaxInt, math.MinInt), to(5, math.MinInt)}
}

// empty are spans without offsets.
func empty() []api.Span {
	return []api.Span{to(0, 0), to(5, 5), to(api.MaxOff, api.MaxOff)}
}

// state is all that a ledger is asked for without a change.
type state struct {
	open    bool
	pending int
	spilt   bool
}

// mustBe fails if a ledger answers something else.
func mustBe(t *testing.T, l *ledger.Ledger, want state) {
	t.Helper()
	if got := (state{l.Open(), l.Pending(), l.Spilt()}); got != want {
		t.Fatalf("%+v, not %+v", got, want)
	}
}

// mustCut fails if Cut answers something else.
func mustCut(t *testing.T, l *ledger.Ledger, cwnd, thresh int, want bool) {
	t.Helper()
	if got := l.Cut(cwnd, thresh); got != want {
		t.Fatalf("Cut(%d, %d): %t", cwnd, thresh, got)
	}
}

// mustAgain fails if Again answers something else.
func mustAgain(t *testing.T, l *ledger.Ledger, s api.Span, want api.Errno) {
	t.Helper()
	if got := l.Again(s); got != want {
		t.Fatalf("Again(%v): %d, not %d", s, got, want)
	}
}

// mustDup fails if Dup answers something else.
func mustDup(t *testing.T, l *ledger.Ledger, s api.Span, want bool) {
	t.Helper()
	if got := l.Dup(s); got != want {
		t.Fatalf("Dup(%v): %t", s, got)
	}
}

// told is what Undo and Force answer.
type told struct {
	cwnd, thresh int
	ok           bool
}

// mustUndo fails if Undo answers something else.
func mustUndo(t *testing.T, l *ledger.Ledger, want told) {
	t.Helper()
	if cwnd, thresh, ok := l.Undo(); (told{cwnd, thresh, ok}) != want {
		t.Fatalf("Undo: %d, %d, %t, not %+v", cwnd, thresh, ok, want)
	}
}

// mustForce fails if Force answers something else.
func mustForce(t *testing.T, l *ledger.Ledger, want told) {
	t.Helper()
	if cwnd, thresh, ok := l.Force(); (told{cwnd, thresh, ok}) != want {
		t.Fatalf("Force: %d, %d, %t, not %+v", cwnd, thresh, ok, want)
	}
}

// of is a ledger in which these are pending.
func of(t *testing.T, spans ...api.Span) *ledger.Ledger {
	t.Helper()
	l := ledger.New()
	for _, s := range spans {
		mustAgain(t, l, s, api.OK)
	}
	mustBe(t, l, state{false, len(spans), false})
	return l
}

// full is a ledger in which as many are pending as may be: 0 to 10, 10 to 20, and so on.
func full(t *testing.T) *ledger.Ledger {
	t.Helper()
	var spans []api.Span
	for i := range api.MaxPending {
		spans = append(spans, to(10*i, 10*i+10))
	}
	return of(t, spans...)
}

// spilt is a full one in which there was no room for one more.
func spilt(t *testing.T) *ledger.Ledger {
	t.Helper()
	l := full(t)
	mustAgain(t, l, to(0, 10), api.ErrFull)
	mustBe(t, l, state{false, api.MaxPending, true})
	return l
}

// mustLet fails if a ledger has other spans pending than these, in that order; all are let go.
func mustLet(t *testing.T, l *ledger.Ledger, spans ...api.Span) {
	t.Helper()
	if l.Pending() != len(spans) {
		t.Fatalf("%d are pending, not %d", l.Pending(), len(spans))
	}
	for i, s := range spans {
		mustDup(t, l, s, true)
		if l.Pending() != len(spans)-i-1 {
			t.Fatalf("%d are pending behind %d of %v", l.Pending(), i+1, spans)
		}
	}
}

func TestExamples(t *testing.T) {
	l := ledger.New()
	mustCut(t, l, 100, 50, true)
	mustAgain(t, l, to(0, 10), api.OK)
	mustUndo(t, l, told{})
	mustDup(t, l, to(0, 10), true)
	mustUndo(t, l, told{100, 50, true})
}

// P19.1
func TestNew(t *testing.T) {
	l := ledger.New()
	if l == nil {
		t.Fatal("none")
	}
	mustBe(t, l, state{})
	mustUndo(t, l, told{})
	mustForce(t, l, told{})
	mustDup(t, l, to(0, api.MaxOff), false)
	mustBe(t, l, state{})
	// Each one goes its own way.
	mustCut(t, l, 1, 2, true)
	mustAgain(t, l, to(0, 1), api.OK)
	mustBe(t, ledger.New(), state{})
}

// P19.1, P19.6: numbers are kept as they are.
func TestCut(t *testing.T) {
	for _, cwnd := range []int{100, 0, 1, -1, math.MinInt, math.MaxInt, api.MaxWindow + 1} {
		for _, thresh := range []int{50, 0, -1, math.MinInt, math.MaxInt, api.MaxWindow + 1} {
			for _, undo := range []func(*testing.T, *ledger.Ledger, told){mustUndo, mustForce} {
				l := ledger.New()
				mustCut(t, l, cwnd, thresh, true)
				mustBe(t, l, state{open: true})
				undo(t, l, told{cwnd, thresh, true})
				mustBe(t, l, state{})
			}
		}
	}
}

// P19.1, P19.6: one that is open stays as it was opened.
func TestCutWhileOneIsOpen(t *testing.T) {
	l := ledger.New()
	mustCut(t, l, 100, 50, true)
	mustCut(t, l, 100, 50, false)
	mustCut(t, l, 7, 8, false)
	mustCut(t, l, 0, 0, false)
	mustBe(t, l, state{open: true})
	mustUndo(t, l, told{100, 50, true})
	mustUndo(t, l, told{})
	mustForce(t, l, told{})
	// What was told in vain is not kept.
	mustCut(t, l, 9, 3, true)
	mustCut(t, l, 10, 4, false)
	mustForce(t, l, told{9, 3, true})
	mustForce(t, l, told{})
	mustUndo(t, l, told{})
}

// P19.2, P19.3: a cut changes nothing of what is pending, nor does it change a cut.
func TestCutAndWhatIsPending(t *testing.T) {
	l := of(t, to(0, 10), to(10, 20))
	mustCut(t, l, 100, 50, true)
	mustBe(t, l, state{true, 2, false})
	mustAgain(t, l, to(20, 30), api.OK)
	mustBe(t, l, state{true, 3, false})
	mustForce(t, l, told{100, 50, true})
	mustBe(t, l, state{false, 3, false})
	mustCut(t, l, 40, 30, true)
	mustUndo(t, l, told{})
	mustLet(t, l, to(0, 10), to(10, 20), to(20, 30))
	mustUndo(t, l, told{40, 30, true})
}

// P19.2
func TestAgain(t *testing.T) {
	l := ledger.New()
	good := []api.Span{to(0, 10), to(0, 10), to(5, 6), to(0, api.MaxOff), to(api.MaxOff-1, api.MaxOff), to(0, 1)}
	for i, s := range good {
		mustAgain(t, l, s, api.OK)
		mustBe(t, l, state{false, i + 1, false})
	}
	for _, s := range append(never(), empty()...) {
		mustAgain(t, l, s, api.ErrRange)
		mustBe(t, l, state{false, len(good), false})
	}
}

// P19.2: it is spilt for good.
func TestSpilt(t *testing.T) {
	l := full(t)
	// What may not be is said first, and spills nothing.
	for _, s := range append(never(), empty()...) {
		mustAgain(t, l, s, api.ErrRange)
		mustBe(t, l, state{false, api.MaxPending, false})
	}
	mustAgain(t, l, to(7, 8), api.ErrFull)
	mustBe(t, l, state{false, api.MaxPending, true})
	mustCut(t, l, 100, 50, true)
	mustAgain(t, l, to(7, 9), api.ErrFull)
	for i := range api.MaxPending {
		mustDup(t, l, to(10*i, 10*i+10), true)
		mustBe(t, l, state{true, api.MaxPending - i - 1, true})
	}
	// What found no room is not pending.
	mustDup(t, l, to(0, api.MaxOff), false)
	mustUndo(t, l, told{})
	mustForce(t, l, told{100, 50, true})
	mustBe(t, l, state{spilt: true})
	mustCut(t, l, 9, 3, true)
	mustAgain(t, l, to(0, 10), api.OK)
	mustDup(t, l, to(0, 10), true)
	mustUndo(t, l, told{})
	mustBe(t, l, state{true, 0, true})
}

// P19.2: one that goes makes room for one.
func TestRoom(t *testing.T) {
	l := full(t)
	for i := range 10 {
		mustDup(t, l, to(10*i, 10*i+10), true)
		mustAgain(t, l, to(5000+i, 5001+i), api.OK)
		mustBe(t, l, state{false, api.MaxPending, false})
	}
	mustAgain(t, l, to(6000, 6001), api.ErrFull)
	mustDup(t, l, to(6000, 6001), false)
	for i := range 10 {
		mustDup(t, l, to(5000+i, 5001+i), true)
	}
	mustBe(t, l, state{false, api.MaxPending - 10, true})
}

// P19.2: of which a span has all offsets.
func TestDup(t *testing.T) {
	for _, c := range []struct {
		s    api.Span
		want bool
	}{
		{to(10, 20), true}, {to(9, 20), true}, {to(10, 21), true}, {to(0, 100), true}, {to(0, api.MaxOff), true},
		{to(11, 20), false}, {to(10, 19), false}, {to(11, 19), false}, {to(0, 19), false}, {to(11, 100), false},
		{to(0, 10), false}, {to(20, 30), false}, {to(30, 40), false},
		{to(10, 10), false}, {to(15, 15), false}, {to(20, 20), false}, {to(0, 0), false},
		{to(-1, 20), false}, {to(-1, 100), false}, {to(20, 10), false}, {to(0, api.MaxOff+1), false}, {to(math.MinInt, math.MaxInt), false},
	} {
		l := of(t, to(10, 20))
		mustDup(t, l, c.s, c.want)
		if c.want {
			mustBe(t, l, state{})
			mustDup(t, l, c.s, false)
			continue
		}
		mustLet(t, l, to(10, 20))
	}
}

// P19.2: what is empty, or may not be, lets none go, wherever they lie.
func TestDupOfNothing(t *testing.T) {
	spans := []api.Span{to(0, 1), to(0, api.MaxOff), to(5, 6), to(4, 5), to(api.MaxOff-1, api.MaxOff)}
	l := of(t, spans...)
	for _, s := range append(never(), empty()...) {
		mustDup(t, l, s, false)
		mustBe(t, l, state{false, len(spans), false})
	}
}

// P19.2: the first one alone, in the order in which they were sent.
func TestDupTakesTheFirst(t *testing.T) {
	spans := []api.Span{to(50, 60), to(10, 20), to(12, 15), to(10, 20), to(0, 5)}
	l := of(t, spans...)
	mustDup(t, l, to(10, 20), true)
	// The one behind it was let go by none, though it is held, too.
	mustLet(t, l.Clone(), to(12, 15), to(50, 60), to(10, 20), to(0, 5))
	mustDup(t, l, to(10, 20), true)
	mustDup(t, l, to(12, 15), false)
	mustLet(t, l.Clone(), to(10, 20), to(0, 5), to(50, 60))
	mustDup(t, l, to(0, 60), true)
	mustDup(t, l, to(50, 60), false)
	mustDup(t, l, to(0, 60), true)
	mustDup(t, l, to(10, 20), false)
	mustDup(t, l, to(0, 60), true)
	mustDup(t, l, to(0, 60), false)
	mustBe(t, l, state{})
}

// P19.2: one that is sent again is behind all others.
func TestAgainIsBehind(t *testing.T) {
	l := of(t, to(0, 10), to(2, 4))
	mustDup(t, l, to(0, 10), true)
	mustAgain(t, l, to(0, 10), api.OK)
	mustDup(t, l, to(0, 10), true)
	mustDup(t, l, to(2, 4), false)
	mustDup(t, l, to(0, 10), true)
	mustBe(t, l, state{})
}

// P19.2: wherever the one stood that goes, the others keep their places.
func TestDupKeepsTheOthers(t *testing.T) {
	for n := 1; n <= 5; n++ {
		var spans []api.Span
		for i := range n {
			spans = append(spans, to(10*i, 10*i+10))
		}
		for at := range n {
			l := of(t, spans...)
			mustDup(t, l, spans[at], true)
			mustAgain(t, l, to(90, 99), api.OK)
			for i, s := range spans {
				if i != at {
					mustDup(t, l, s, true)
					mustAgain(t, l, s, api.OK)
				}
			}
			// By one that holds all of them, they go one by one, in the order in which they were put there.
			mustDup(t, l, to(0, 100), true)
			mustDup(t, l, to(90, 99), false)
			for i, s := range spans {
				if i != at {
					mustDup(t, l, to(0, 100), true)
					mustDup(t, l, s, false)
				}
			}
			mustBe(t, l, state{})
		}
	}
}

// P19.3
func TestUndoAndForce(t *testing.T) {
	for _, c := range []struct {
		make  func(*testing.T) *ledger.Ledger
		undo  bool
		ahead state
	}{
		{func(t *testing.T) *ledger.Ledger { return of(t) }, true, state{true, 0, false}},
		{func(t *testing.T) *ledger.Ledger { return of(t, to(0, 10)) }, false, state{true, 1, false}},
		{func(t *testing.T) *ledger.Ledger { return of(t, to(0, 10), to(0, 10)) }, false, state{true, 2, false}},
		{full, false, state{true, api.MaxPending, false}},
		{spilt, false, state{true, api.MaxPending, true}},
	} {
		l := c.make(t)
		mustUndo(t, l, told{})
		mustForce(t, l, told{})
		mustCut(t, l, 100, 50, true)
		mustBe(t, l, c.ahead)
		behind := c.ahead
		behind.open = false
		if c.undo {
			mustUndo(t, l, told{100, 50, true})
			mustBe(t, l, behind)
			mustUndo(t, l, told{})
			mustCut(t, l, 100, 50, true)
		} else {
			mustUndo(t, l, told{})
			mustBe(t, l, c.ahead)
		}
		mustForce(t, l, told{100, 50, true})
		mustBe(t, l, behind)
		mustForce(t, l, told{})
		mustUndo(t, l, told{})
		mustBe(t, l, behind)
	}
}

// P19.3: each of several that are pending is waited for.
func TestUndoWaitsForAll(t *testing.T) {
	l := of(t, to(0, 10), to(10, 20))
	mustCut(t, l, 100, 50, true)
	mustAgain(t, l, to(0, 10), api.OK)
	mustDup(t, l, to(0, 10), true)
	mustUndo(t, l, told{})
	mustDup(t, l, to(10, 20), true)
	mustUndo(t, l, told{})
	mustDup(t, l, to(0, 10), true)
	mustUndo(t, l, told{100, 50, true})
}

// P19.4: a clone goes its own way.
func TestClone(t *testing.T) {
	l := of(t, to(0, 10), to(10, 20), to(20, 30))
	mustDup(t, l, to(20, 30), true)
	mustCut(t, l, 100, 50, true)
	c := l.Clone()
	if c == nil || c == l {
		t.Fatal("no clone")
	}
	mustBe(t, c, state{true, 2, false})
	// Both have room for more, and each of them has what was put there by its own call alone.
	mustAgain(t, l, to(30, 40), api.OK)
	mustAgain(t, c, to(40, 50), api.OK)
	mustDup(t, l, to(40, 50), false)
	mustDup(t, c, to(30, 40), false)
	mustDup(t, c, to(0, 10), true)
	mustBe(t, l, state{true, 3, false})
	mustForce(t, c, told{100, 50, true})
	mustBe(t, l, state{true, 3, false})
	mustCut(t, c, 7, 6, true)
	mustLet(t, l, to(0, 10), to(10, 20), to(30, 40))
	mustUndo(t, l, told{100, 50, true})
	mustBe(t, c, state{true, 2, false})
	mustLet(t, c, to(10, 20), to(40, 50))
	mustUndo(t, c, told{7, 6, true})
}

// P19.4: a clone is spilt where the other one was, and not by what is told the other one later.
func TestACloneOfAFullOne(t *testing.T) {
	l := full(t)
	c := l.Clone()
	mustAgain(t, l, to(0, 10), api.ErrFull)
	mustBe(t, l, state{false, api.MaxPending, true})
	mustBe(t, c, state{false, api.MaxPending, false})
	d := l.Clone()
	mustBe(t, d, state{false, api.MaxPending, true})
	mustDup(t, d, to(0, api.MaxOff), true)
	mustBe(t, l, state{false, api.MaxPending, true})
	mustAgain(t, c, to(0, 10), api.ErrFull)
}

// P19.4: of one without anything.
func TestACloneOfNothing(t *testing.T) {
	l := ledger.New()
	c := l.Clone()
	mustBe(t, c, state{})
	mustAgain(t, c, to(0, 10), api.OK)
	mustCut(t, c, 1, 2, true)
	mustBe(t, l, state{})
	mustAgain(t, l, to(5, 6), api.OK)
	mustLet(t, c, to(0, 10))
	mustLet(t, l, to(5, 6))
}

// P19.4: of nil
func TestOfNil(t *testing.T) {
	var l *ledger.Ledger
	for range 2 {
		mustCut(t, l, 100, 50, false)
		for _, s := range slices.Concat(never(), empty(), []api.Span{to(0, 10), to(0, api.MaxOff)}) {
			mustAgain(t, l, s, api.ErrNil)
			mustDup(t, l, s, false)
		}
		mustUndo(t, l, told{})
		mustForce(t, l, told{})
		mustBe(t, l, state{})
		if l.Clone() != nil {
			t.Error("a clone of nil")
		}
	}
}

// P1: nothing is promised of the zero value, but that no call panics.
func TestTheZeroValue(t *testing.T) {
	var l ledger.Ledger
	l.Dup(to(0, 10))
	l.Undo()
	l.Force()
	l.Cut(100, 50)
	l.Again(to(0, 10))
	l.Clone().Dup(to(0, 10))
	l.Open()
	l.Pending()
	l.Spilt()
}

// model is what the chapter says, in words as near as may be.
type model struct {
	open, spilt  bool
	cwnd, thresh int
	pending      []api.Span
}

// none tells whether a span has no offset, or may not be.
func none(s api.Span) bool {
	return s.From < 0 || s.To > api.MaxOff || s.From >= s.To
}

func (m *model) again(s api.Span) api.Errno {
	switch {
	case none(s):
		return api.ErrRange
	case len(m.pending) == 256:
		m.spilt = true
		return api.ErrFull
	}
	m.pending = append(m.pending, s)
	return api.OK
}

func (m *model) dup(s api.Span) bool {
	if none(s) {
		return false
	}
	for i, p := range m.pending {
		if s.From <= p.From && p.To <= s.To {
			m.pending = slices.Concat(m.pending[:i], m.pending[i+1:])
			return true
		}
	}
	return false
}

func (m *model) undo(force bool) told {
	if !m.open || !force && (len(m.pending) > 0 || m.spilt) {
		return told{}
	}
	m.open = false
	return told{m.cwnd, m.thresh, true}
}

// somewhere is a span of a few offsets, near the begin or the end of all; now and then it is empty, or may not be.
func somewhere(rnd *rand.Rand) api.Span {
	from := rnd.Intn(12) - 1
	if rnd.Intn(2) == 0 {
		from += api.MaxOff - 10
	}
	return to(from, from+rnd.Intn(7)-1)
}

// pair is a ledger, and the model that it must be like.
type pair struct {
	l *ledger.Ledger
	m model
}

// do does something to both, and fails if they answer otherwise. Of ten as many are sent once more as more says.
func do(t *testing.T, rnd *rand.Rand, p *pair, more int) {
	t.Helper()
	if rnd.Intn(10) < more {
		s := somewhere(rnd)
		mustAgain(t, p.l, s, p.m.again(s))
		return
	}
	switch n := rnd.Intn(10); n {
	case 0:
		mustForce(t, p.l, p.m.undo(true))
	case 1, 2:
		mustUndo(t, p.l, p.m.undo(false))
	case 3, 4:
		cwnd, thresh := int(rnd.Uint64()), int(rnd.Uint64())
		mustCut(t, p.l, cwnd, thresh, !p.m.open)
		if !p.m.open {
			p.m.open, p.m.cwnd, p.m.thresh = true, cwnd, thresh
		}
	default:
		s := somewhere(rnd)
		mustDup(t, p.l, s, p.m.dup(s))
	}
}

// P19.1 to P19.6: some that go their own ways, beside the model.
func TestAnyWay(t *testing.T) {
	rnd := rand.New(rand.NewSource(19))
	for more := 1; more <= 9; more++ {
		for range 40 {
			pairs := []*pair{{l: ledger.New()}}
			for range 600 {
				p := pairs[rnd.Intn(len(pairs))]
				if rnd.Intn(100) == 0 {
					c := &pair{p.l.Clone(), p.m}
					c.m.pending = slices.Clone(p.m.pending)
					pairs = append(pairs[:min(len(pairs), 2)], c)
				}
				do(t, rnd, p, more)
				for _, p := range pairs {
					mustBe(t, p.l, state{p.m.open, len(p.m.pending), p.m.spilt})
				}
			}
		}
	}
}

// P19.5: one for each that said so.
func TestEachForOne(t *testing.T) {
	rnd := rand.New(rand.NewSource(5))
	for range 200 {
		l := ledger.New()
		pending, most := 0, 0
		for range 400 {
			s := somewhere(rnd)
			switch {
			case rnd.Intn(3) > 0:
				if l.Again(s) == api.OK {
					pending++
				}
			case l.Dup(s):
				pending--
			}
			if l.Pending() != pending {
				t.Fatalf("%d are pending, not %d", l.Pending(), pending)
			}
			most = max(most, pending)
		}
		if most < 5 {
			t.Fatalf("no more than %d were pending", most)
		}
	}
}
