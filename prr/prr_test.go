package prr_test

import (
	"math"
	"math/big"
	"math/rand"
	"reflect"
	"testing"

	"undertow/api"
	"undertow/prr"
)

// The calls with the types that the chapter lists.
var (
	_ func(int, int, int) (*prr.Prr, api.Errno) = prr.New
	_ func(*prr.Prr, int, int) int              = (*prr.Prr).Ack
	_ func(*prr.Prr) api.Errno                  = (*prr.Prr).First
	_ func(*prr.Prr, int) api.Errno             = (*prr.Prr).Sent
	_ func(*prr.Prr) int                        = (*prr.Prr).Left
	_ func(*prr.Prr) int                        = (*prr.Prr).Out
	_ func(*prr.Prr) int                        = (*prr.Prr).Delivered
	_ func(*prr.Prr) int                        = (*prr.Prr).Whole
	_ func(*prr.Prr) *prr.Prr                   = (*prr.Prr).Clone
)

// counted is as far as is counted what came.
const counted = 1 << 40

func TestNoOtherCalls(t *testing.T) {
	if n := reflect.TypeFor[*prr.Prr]().NumMethod(); n != 8 {
		t.Errorf("%d methods, not 8", n)
	}
	for _, f := range reflect.VisibleFields(reflect.TypeFor[prr.Prr]()) {
		if f.IsExported() {
			t.Errorf("field %s", f.Name)
		}
	}
}

// at is an episode in which nothing came.
func at(t *testing.T, mss, flight, thresh int) *prr.Prr {
	t.Helper()
	p, e := prr.New(mss, flight, thresh)
	if p == nil || e != api.OK {
		t.Fatalf("New(%d, %d, %d): %d", mss, flight, thresh, e)
	}
	return p
}

// must fails if an episode answers something else.
func must(t *testing.T, p *prr.Prr, delivered, out, left, whole int) {
	t.Helper()
	if p.Delivered() != delivered || p.Out() != out || p.Left() != left || p.Whole() != whole {
		t.Errorf("Delivered %d, Out %d, Left %d, Whole %d, not %d, %d, %d, %d", p.Delivered(), p.Out(), p.Left(), p.Whole(), delivered, out, left, whole)
	}
}

// mustAck fails if Ack answers something else, or does not leave it.
func mustAck(t *testing.T, p *prr.Prr, delivered, pipe, want int) {
	t.Helper()
	out := p.Out()
	if got := p.Ack(delivered, pipe); got != want || p.Left() != want || p.Out() != out {
		t.Errorf("Ack(%d, %d): %d, Left %d, Out %d, not %d, %d", delivered, pipe, got, p.Left(), p.Out(), want, out)
	}
}

// mustSend fails if n bytes may not go.
func mustSend(t *testing.T, p *prr.Prr, n int) {
	t.Helper()
	out, left := p.Out(), p.Left()
	if e := p.Sent(n); e != api.OK || p.Out() != out+n || p.Left() != left-n {
		t.Errorf("Sent(%d): %d, Out %d, Left %d, not %d, %d", n, e, p.Out(), p.Left(), out+n, left-n)
	}
}

func TestExamples(t *testing.T) {
	p := at(t, 10, 100, 50)
	mustAck(t, p, 10, 90, 5)
	mustSend(t, p, 5)
	mustAck(t, p, 10, 80, 5)
	mustAck(t, p, 10, 40, 10)
	must(t, p, 30, 5, 10, 100)
}

// DOC.md, example 6: for each two bytes that come one goes.
func TestHalf(t *testing.T) {
	p := at(t, 10, 100, 50)
	for n := 1; n <= 50; n++ {
		mustAck(t, p, 1, 100-n, n%2)
		mustSend(t, p, n%2)
	}
	must(t, p, 50, 25, 0, 100)
}

// P18.1
func TestNew(t *testing.T) {
	for _, c := range [][4]int{
		{1, 0, 1, 1}, {api.MaxMss, 0, 1, 1}, {1, api.MaxWindow, 1, api.MaxWindow}, {1, 0, api.MaxWindow, api.MaxWindow},
		{api.MaxMss, api.MaxWindow, api.MaxWindow, api.MaxWindow}, {10, 100, 50, 100}, {10, 50, 100, 100}, {10, 99, 100, 100}, {10, 100, 99, 100}, {10, 7, 7, 7},
	} {
		must(t, at(t, c[0], c[1], c[2]), 0, 0, 0, c[3])
	}
	for _, c := range [][3]int{
		{0, 100, 50}, {-1, 100, 50}, {math.MinInt, 100, 50}, {api.MaxMss + 1, 100, 50}, {math.MaxInt, 100, 50},
		{10, -1, 50}, {10, math.MinInt, 50}, {10, api.MaxWindow + 1, 50}, {10, math.MaxInt, 50},
		{10, 100, 0}, {10, 100, -1}, {10, 100, math.MinInt}, {10, 100, api.MaxWindow + 1}, {10, 100, math.MaxInt},
		{0, -1, 0}, {math.MaxInt, math.MaxInt, math.MaxInt},
	} {
		if p, e := prr.New(c[0], c[1], c[2]); p != nil || e != api.ErrArg {
			t.Errorf("New(%d, %d, %d): %v, %d", c[0], c[1], c[2], p, e)
		}
	}
}

// P18.2: above thresh in proportion, rounded up.
func TestAckShrinks(t *testing.T) {
	for _, c := range []struct{ flight, thresh, delivered, want int }{
		{100, 50, 0, 0}, {100, 50, 1, 1}, {100, 50, 2, 1}, {100, 50, 3, 2}, {100, 50, 100, 50}, {100, 50, 1000, 500},
		{100, 30, 1, 1}, {100, 30, 3, 1}, {100, 30, 4, 2}, {100, 30, 10, 3}, {100, 99, 50, 50}, {100, 1, 100, 1}, {100, 1, 101, 2},
		// A flight below thresh is not what it is parted by.
		{0, 50, 7, 7}, {20, 50, 7, 7}, {50, 50, 7, 7},
		{100, 50, -1, 0}, {100, 50, math.MinInt, 0},
		{api.MaxWindow, 3, api.MaxWindow - 1, 3}, {api.MaxWindow, 3, api.MaxWindow, 3},
		{api.MaxWindow, 3, api.MaxWindow + 1, 3}, {api.MaxWindow, 3, math.MaxInt, 3},
		{api.MaxWindow, api.MaxWindow - 1, math.MaxInt, api.MaxWindow - 1}, {1, api.MaxWindow, math.MaxInt, api.MaxWindow},
	} {
		for _, pipe := range []int{c.thresh + 1, c.thresh + 1000, math.MaxInt} {
			mustAck(t, at(t, 10, c.flight, c.thresh), c.delivered, pipe, c.want)
		}
	}
}

// P18.2: up to thresh what is wanting, but no more than what came, and a segment.
func TestAckRefills(t *testing.T) {
	for _, c := range []struct{ delivered, pipe, want int }{
		// What is wanting of 50.
		{1000, 50, 0}, {1000, 49, 1}, {1000, 40, 10}, {1000, 1, 49}, {1000, 0, 50}, {1000, -1, 50}, {1000, -100, 50}, {1000, math.MinInt, 50}, {math.MaxInt, math.MinInt, 50},
		// What came, and a segment of 10.
		{0, 0, 10}, {1, 0, 11}, {39, 0, 49}, {40, 0, 50}, {41, 0, 50}, {0, -7, 10}, {-1, 0, 10}, {-5, 30, 10}, {math.MinInt, 0, 10}, {math.MinInt, math.MinInt, 10},
		{5, 34, 15}, {5, 35, 15}, {5, 36, 14},
	} {
		mustAck(t, at(t, 10, 100, 50), c.delivered, c.pipe, c.want)
	}
	// delivered is MaxWindow at most, so that a wide thresh can't be reached in one step.
	mustAck(t, at(t, 10, 100, api.MaxWindow), math.MaxInt, 0, api.MaxWindow)
	mustAck(t, at(t, 10, 100, api.MaxWindow), api.MaxWindow-20, 0, api.MaxWindow-10)
}

// P18.2: the greater one of what came in all less what went, and what came now.
func TestAckRefillsByBoth(t *testing.T) {
	p := at(t, 10, 100, 1000)
	mustAck(t, p, 30, 0, 40)
	mustAck(t, p, 5, 0, 45)
	mustSend(t, p, 45)
	// Delivered less Out is -10, and what came is 0.
	mustAck(t, p, 0, 0, 10)
	mustAck(t, p, 7, 0, 17)
	// Delivered less Out is 10 now, of which 13 came.
	mustAck(t, p, 13, 0, 23)
	// 12, of which 2 came.
	mustAck(t, p, 2, 0, 22)
	must(t, p, 57, 45, 22, 1000)
}

// P18.2: Left is 0, where more went than there was room for.
func TestAckBelowNothing(t *testing.T) {
	p := at(t, 10, 100, 50)
	if e := p.First(); e != api.OK {
		t.Fatalf("First: %d", e)
	}
	mustSend(t, p, 10)
	mustAck(t, p, 2, 90, 0)
	mustAck(t, p, 16, 90, 0)
	mustAck(t, p, 2, 90, 0)
	mustAck(t, p, 2, 90, 1)
	must(t, p, 22, 10, 1, 100)
}

// P18.2: the room is reckoned anew at each Ack, and nothing of the one before is kept.
func TestAckAnew(t *testing.T) {
	p := at(t, 10, 100, 50)
	mustAck(t, p, 20, 90, 10)
	mustAck(t, p, 0, 90, 10)
	mustAck(t, p, 0, 45, 5)
	mustAck(t, p, 0, 50, 0)
	mustAck(t, p, 0, 51, 10)
	mustSend(t, p, 4)
	mustAck(t, p, 0, 51, 6)
	must(t, p, 20, 4, 6, 100)
}

// P18.2: Delivered ends at 2^40; what came now counts there, too.
func TestAckCountsSoFar(t *testing.T) {
	p := at(t, 10, api.MaxWindow, api.MaxWindow-1)
	for range counted/api.MaxWindow - 1 {
		p.Ack(math.MaxInt, 0)
	}
	mustDeliver := func(came, want int) {
		t.Helper()
		p.Ack(came, 0)
		if p.Delivered() != want {
			t.Errorf("Delivered %d, not %d", p.Delivered(), want)
		}
	}
	mustDeliver(api.MaxWindow-5, counted-5)
	mustDeliver(4, counted-1)
	mustDeliver(1, counted)
	mustDeliver(1, counted)
	mustDeliver(math.MaxInt, counted)
	mustDeliver(-1, counted)
	mustAck(t, p, 1, api.MaxWindow, counted-api.MaxWindow)
	mustSend(t, p, counted-api.MaxWindow)
	// Delivered less Out is MaxWindow; what is wanting is less.
	mustAck(t, p, 0, 5, api.MaxWindow-6)
	mustAck(t, p, math.MaxInt, api.MaxWindow, 0)
}

// P18.2: at the end of Delivered what may go is what came now, once all of Delivered went.
func TestAckBeyondTheCount(t *testing.T) {
	p := at(t, 10, 1, api.MaxWindow)
	for range counted/api.MaxWindow + 1 {
		p.Ack(api.MaxWindow, math.MaxInt)
	}
	mustAck(t, p, 0, math.MaxInt, counted)
	mustSend(t, p, counted)
	mustAck(t, p, 500, math.MaxInt, 0)
	mustAck(t, p, 500, 0, 510)
	must(t, p, counted, counted, 510, api.MaxWindow)
}

// P18.3
func TestFirst(t *testing.T) {
	p := at(t, 10, 100, 50)
	if e := p.First(); e != api.OK {
		t.Errorf("First: %d", e)
	}
	must(t, p, 0, 0, 10, 100)
	if e := p.First(); e != api.ErrState {
		t.Errorf("First once more: %d", e)
	}
	must(t, p, 0, 0, 10, 100)

	// Left is less than mss, or not.
	for _, c := range [][2]int{{2, 10}, {18, 10}, {20, 10}, {22, 11}, {60, 30}} {
		p := at(t, 10, 100, 50)
		p.Ack(c[0], 90)
		if e := p.First(); e != api.OK {
			t.Errorf("First: %d", e)
		}
		must(t, p, c[0], 0, c[1], 100)
	}
}

// P18.3: an Ack takes back what First let go, but First may not be called again.
func TestFirstOnce(t *testing.T) {
	p := at(t, 10, 100, 50)
	p.First()
	mustAck(t, p, 2, 90, 1)
	if e := p.First(); e != api.ErrState {
		t.Errorf("First once more: %d", e)
	}
	must(t, p, 2, 0, 1, 100)
}

// P18.3: First is called too late, if something went; nothing is not something.
func TestFirstLate(t *testing.T) {
	p := at(t, 10, 100, 50)
	p.Ack(4, 90)
	mustSend(t, p, 1)
	if e := p.First(); e != api.ErrState {
		t.Errorf("First, though one byte went: %d", e)
	}
	must(t, p, 4, 1, 1, 100)

	p = at(t, 10, 100, 50)
	mustSend(t, p, 0)
	if e := p.Sent(11); e != api.ErrFull {
		t.Errorf("Sent(11): %d", e)
	}
	if e := p.First(); e != api.OK {
		t.Errorf("First, though nothing went: %d", e)
	}
	must(t, p, 0, 0, 10, 100)
}

// P18.3
func TestSent(t *testing.T) {
	p := at(t, 10, 100, 50)
	for _, c := range []struct {
		n    int
		want api.Errno
	}{{1, api.ErrFull}, {math.MaxInt, api.ErrFull}, {-1, api.ErrRange}, {math.MinInt, api.ErrRange}} {
		if e := p.Sent(c.n); e != c.want {
			t.Errorf("Sent(%d), none left: %d, not %d", c.n, e, c.want)
		}
		must(t, p, 0, 0, 0, 100)
	}
	mustSend(t, p, 0)
	p.Ack(20, 90)
	for _, c := range []struct {
		n    int
		want api.Errno
	}{{11, api.ErrFull}, {math.MaxInt, api.ErrFull}, {-1, api.ErrRange}, {math.MinInt, api.ErrRange}} {
		if e := p.Sent(c.n); e != c.want {
			t.Errorf("Sent(%d), 10 left: %d, not %d", c.n, e, c.want)
		}
		must(t, p, 20, 0, 10, 100)
	}
	mustSend(t, p, 3)
	mustSend(t, p, 0)
	if e := p.Sent(8); e != api.ErrFull {
		t.Errorf("Sent(8), 7 left: %d", e)
	}
	mustSend(t, p, 7)
	must(t, p, 20, 10, 0, 100)
}

// P18.4: a clone has mss, thresh and First's mark, too, and goes its own way.
func TestClone(t *testing.T) {
	p := at(t, 10, 100, 50)
	p.First()
	p.Ack(20, 90)
	p.Sent(4)
	c := p.Clone()
	must(t, c, 20, 4, 6, 100)
	mustSend(t, c, 6)
	mustAck(t, c, 1, 0, 21)
	must(t, c, 21, 10, 21, 100)
	must(t, p, 20, 4, 6, 100)
	mustAck(t, p, 0, 45, 5)
	must(t, c, 21, 10, 21, 100)

	p = at(t, 10, 100, 50)
	p.First()
	c = p.Clone()
	if e := c.First(); e != api.ErrState {
		t.Errorf("First of a clone: %d", e)
	}
	p = at(t, 10, 100, 50)
	if e := p.Clone().First(); e != api.OK {
		t.Errorf("First of a clone: %d", e)
	}
	if e := p.First(); e != api.OK {
		t.Errorf("First behind a clone's: %d", e)
	}
}

// P18.3, P18.4
func TestOfNil(t *testing.T) {
	var p *prr.Prr
	if p.First() != api.ErrNil || p.Sent(0) != api.ErrNil || p.Sent(-1) != api.ErrNil || p.Sent(5) != api.ErrNil {
		t.Error("First or Sent of nil: not ErrNil")
	}
	if p.Ack(5, 5) != 0 || p.Left() != 0 || p.Out() != 0 || p.Delivered() != 0 || p.Whole() != 0 || p.Clone() != nil {
		t.Error("nil answers something")
	}
}

// ceil is a times b by c, rounded up.
func ceil(a, b, c int) int {
	n := new(big.Int).Mul(big.NewInt(int64(a)), big.NewInt(int64(b)))
	q, m := new(big.Int).DivMod(n, big.NewInt(int64(c)), new(big.Int))
	if m.Sign() > 0 {
		q.Add(q, big.NewInt(1))
	}
	return int(q.Int64())
}

// model is what the chapter says, in words as near as may be.
type model struct {
	mss, thresh, whole   int
	delivered, out, left int
	first                bool
	acks                 int
}

func (m *model) ack(delivered, pipe int) {
	m.acks++
	if delivered < 0 {
		delivered = 0
	}
	if delivered > 1<<20 {
		delivered = 1 << 20
	}
	m.delivered += delivered
	if pipe > m.thresh {
		m.left = ceil(m.delivered, m.thresh, m.whole) - m.out
	} else {
		if pipe < 0 {
			pipe = 0
		}
		m.left = m.delivered - m.out
		if m.left < delivered {
			m.left = delivered
		}
		m.left += m.mss
		if m.left > m.thresh-pipe {
			m.left = m.thresh - pipe
		}
	}
	if m.left < 0 {
		m.left = 0
	}
}

func (m *model) firstGo() api.Errno {
	if m.first || m.out != 0 {
		return api.ErrState
	}
	m.first = true
	if m.left < m.mss {
		m.left = m.mss
	}
	return api.OK
}

func (m *model) sent(n int) api.Errno {
	if n < 0 {
		return api.ErrRange
	}
	if n > m.left {
		return api.ErrFull
	}
	m.out += n
	m.left -= n
	return api.OK
}

// some is a number that is often near one that matters.
func some(r *rand.Rand, m model) int {
	ends := []int{math.MinInt, math.MaxInt, 0, 0, m.mss, m.mss, m.thresh, m.thresh, m.thresh, m.whole, m.left, m.left, m.out, api.MaxWindow}
	n := ends[r.Intn(len(ends))]
	switch r.Intn(4) {
	case 0:
		return n
	case 1:
		return max(n, math.MinInt+2) - r.Intn(3)
	case 2:
		return min(n, math.MaxInt-2) + r.Intn(3)
	}
	return r.Intn(2*m.whole+2) - 2
}

// P18.2, P18.3, P18.5: a walk beside the model.
func TestWalk(t *testing.T) {
	r := rand.New(rand.NewSource(18))
	for range 500 {
		mss := []int{1, 2, 10, 1000, api.MaxMss}[r.Intn(5)]
		wide := []int{1, 10, 1000, api.MaxWindow - 1}[r.Intn(4)]
		flight, thresh := r.Intn(wide+2), 1+r.Intn(wide+1)
		p := at(t, mss, flight, thresh)
		m := model{mss: mss, thresh: thresh, whole: max(flight, thresh)}
		for range 120 {
			a, b := some(r, m), some(r, m)
			op := r.Intn(8)
			switch op {
			case 0:
				if e, want := p.First(), m.firstGo(); e != want {
					t.Fatalf("First: %d, not %d: %+v", e, want, m)
				}
			case 1, 2, 3:
				if e, want := p.Sent(a), m.sent(a); e != want {
					t.Fatalf("Sent(%d): %d, not %d: %+v", a, e, want, m)
				}
			case 4:
				p.Clone().Ack(a, b)
				p = p.Clone()
			default:
				m.ack(a, b)
				mustAck(t, p, a, b, m.left)
			}
			must(t, p, m.delivered, m.out, m.left, m.whole)
			bound := max(ceil(m.delivered, thresh, m.whole), m.delivered+mss*m.acks) + mss
			if p.Out() > bound {
				t.Fatalf("Out %d, above %d: %+v", p.Out(), bound, m)
			}
			if t.Failed() {
				t.Fatalf("op %d of %d, %d: %+v", op, a, b, m)
			}
		}
	}
}

// P18.6
func TestInProportion(t *testing.T) {
	r := rand.New(rand.NewSource(6))
	for range 2000 {
		flight, thresh := r.Intn(200), 1+r.Intn(200)
		p := at(t, 1+r.Intn(20), flight, thresh)
		came := 0
		for range 20 {
			n := r.Intn(30)
			came += n
			if e := p.Sent(p.Ack(n, thresh+1+r.Intn(50))); e != api.OK {
				t.Fatalf("Sent: %d", e)
			}
			if want := ceil(came, thresh, max(flight, thresh)); p.Out() != want {
				t.Fatalf("Out %d, not %d", p.Out(), want)
			}
		}
	}
}
