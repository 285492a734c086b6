package sender_test

import (
	"math"
	"math/rand"
	"slices"
	"testing"

	"undertow/api"
	"undertow/dup"
	"undertow/segment"
	"undertow/sender"
	"undertow/span"
)

// copyOf is a segment of data under way.
type copyOf struct {
	span api.Span
	val  uint32
}

// ear is a receiver that answers each segment at once.
type ear struct {
	next  int
	above []api.Span // none touches another one; the one that grew last is the first
}

// take has a segment arrive, and answers the blocks of it.
func (r *ear) take(s api.Span) (again api.Span, sacks []api.Span) {
	if below := span.Below(s, r.next); span.Len(below) > 0 {
		again = below
	}
	grown := s
	var others []api.Span
	for _, a := range r.above {
		if m := span.Meet(a, s); span.Len(m) > 0 && span.Len(again) == 0 {
			again = m
		}
		if span.Touch(a, grown) {
			grown = span.Hull(a, grown)
		} else {
			others = append(others, a)
		}
	}
	r.above = append([]api.Span{grown}, others...)
	for {
		i := slices.IndexFunc(r.above, func(a api.Span) bool { return a.From <= r.next })
		if i < 0 {
			break
		}
		r.next = max(r.next, r.above[i].To)
		r.above = slices.Delete(r.above, i, i+1)
	}
	return again, r.above
}

// world is a sender, the model that it must be like, and all that goes between it and a receiver.
type world struct {
	c    api.Config
	s    *sender.Sender
	m    *model
	ear  ear
	data []copyOf
	back [][]byte
	ts   bool
	loss int // of a hundred copies so many are dropped
	mess int // so many come out of their turn, or twice
	slow int // how long a step may take
}

// newWorld is one of which nobody knows how it is, now and then near the end of all times.
func newWorld(t *testing.T, rnd *rand.Rand) *world {
	t.Helper()
	mss := 1 + rnd.Intn(12)
	most := mss * (1 + rnd.Intn(60))
	c := api.Config{
		First: rnd.Uint32(), Mss: mss, Buffer: 1 + rnd.Intn(60*mss), Most: most, Start: mss + rnd.Intn(most-mss+1),
		MinRto: 1 + rnd.Intn(300), Floor: rnd.Intn(3) * rnd.Intn(20),
	}
	c.MaxRto = c.MinRto + rnd.Intn(5000)
	if rnd.Intn(4) == 0 {
		c.MaxRto = 1 << 36
	}
	w := &world{c: c, s: of(t, c), m: newModel(c), ts: rnd.Intn(2) == 0, loss: rnd.Intn(3) * rnd.Intn(15), mess: rnd.Intn(3) * rnd.Intn(15), slow: 1 + rnd.Intn(40)}
	if rnd.Intn(12) == 0 {
		w.tick(t, api.MaxOff-rnd.Intn(3000))
	}
	return w
}

// clone is the same, going its own way.
func (w *world) clone() *world {
	c := *w
	c.s, c.m = w.s.Clone(), w.m.clone()
	c.ear.above = slices.Clone(w.ear.above)
	c.data, c.back = slices.Clone(w.data), slices.Clone(w.back)
	return &c
}

// mustBeAlike fails if the sender is not as the model is.
func (w *world) mustBeAlike(t *testing.T) {
	t.Helper()
	if got, want := w.s.State(), w.m.state(); got != want {
		t.Fatalf("state\n%+v, not\n%+v", got, want)
	}
	if got, want := w.s.Lost(), w.m.lost(); !slices.Equal(got, want) {
		t.Fatalf("lost %v, not %v", got, want)
	}
	if got, want := w.s.Sacked(), w.m.sacked(); !slices.Equal(got, want) {
		t.Fatalf("sacked %v, not %v", got, want)
	}
	at, ok := w.s.Deadline()
	if wantAt, want := w.m.deadline(); at != wantAt || ok != want {
		t.Fatalf("deadline %d, %t, not %d, %t", at, ok, wantAt, want)
	}
}

// do does something to both, and fails if they go apart, or if what follows from the promises does not hold.
func (w *world) do(t *testing.T, what func(s *sender.Sender) ([]api.Send, api.Errno), like func() ([]api.Send, api.Errno)) []api.Send {
	t.Helper()
	ahead, lost, sacked := w.s.State(), w.s.Lost(), w.s.Sacked()
	l, e := what(w.s)
	want, wantE := like()
	if e != wantE || !same(l, want) {
		t.Fatalf("%v, %d, not %v, %d", l, e, want, wantE)
	}
	w.mustBeAlike(t)
	if e != api.OK {
		behind := w.s.State()
		behind.Bad = ahead.Bad
		if behind != ahead || !slices.Equal(w.s.Lost(), lost) || !slices.Equal(w.s.Sacked(), sacked) || l != nil {
			t.Fatalf("refused by %d, and changed from %+v to %+v", e, ahead, behind)
		}
		return nil
	}
	w.mustHold(t, ahead, l)
	for _, one := range l {
		seg, e := segment.Decode(one.Raw)
		if e != api.OK {
			t.Fatal(e)
		}
		w.data = append(w.data, copyOf{one.Span, seg.Opt.Val})
	}
	return l
}

// mustHold fails if what follows (P22.9 to P22.11) does not hold.
func (w *world) mustHold(t *testing.T, ahead sender.State, went []api.Send) {
	t.Helper()
	s := w.s.State()
	switch {
	case s.Cwnd < w.c.Mss || s.Cwnd > w.c.Most:
		t.Fatalf("Cwnd %d", s.Cwnd)
	case s.Una < ahead.Una || s.Nxt < ahead.Nxt || s.End < ahead.End || s.Una > s.Nxt || s.Nxt > s.End || s.End-s.Una > w.c.Buffer:
		t.Fatalf("%+v behind %+v", s, ahead)
	}
	missing := s.Nxt - s.Una
	for _, one := range w.s.Sacked() {
		missing -= span.Len(one)
	}
	at, ok := w.s.Deadline()
	if ok && (at < s.Now || at > api.MaxOff) || !ok && missing > 0 && s.Now < api.MaxOff-api.MaxRto {
		t.Fatalf("deadline %d, %t at %d", at, ok, s.Now)
	}
	noProbe := func(one api.Send) bool { return one.Kind != api.SendProbe }
	if slices.ContainsFunc(went, noProbe) && s.Pipe > s.Cwnd+w.c.Mss {
		t.Fatalf("a pipe of %d, a window of %d", s.Pipe, s.Cwnd)
	}
	for _, one := range went {
		if want := rawOf(w.c.First, one.Span.From, s.Now, text(one.Span)); !slices.Equal(one.Raw, want) {
			t.Fatalf("%v, not %v", one, want)
		}
	}
}

func (w *world) write(t *testing.T, n int) {
	t.Helper()
	from := w.s.State().End
	p := text(api.Span{From: from, To: from + n})
	w.do(t, func(s *sender.Sender) ([]api.Send, api.Errno) { return s.Write(p) }, func() ([]api.Send, api.Errno) { return w.m.write(p) })
}

func (w *world) tick(t *testing.T, dt int) {
	t.Helper()
	w.do(t, func(s *sender.Sender) ([]api.Send, api.Errno) { return s.Tick(dt) }, func() ([]api.Send, api.Errno) { return w.m.tick(dt) })
}

func (w *world) ack(t *testing.T, raw []byte) {
	t.Helper()
	w.do(t, func(s *sender.Sender) ([]api.Send, api.Errno) { return s.Ack(raw) }, func() ([]api.Send, api.Errno) { return w.m.ack(raw) })
}

// passes is how long a step takes: most often less than till an alarm rings, now and then just so long, or much longer.
func (w *world) passes(rnd *rand.Rand) int {
	at, ok := w.s.Deadline()
	left := at - w.s.State().Now
	switch n := rnd.Intn(60); {
	case n == 0:
		return -1 - rnd.Intn(5)
	case n == 1:
		return []int{math.MinInt, math.MaxInt, api.MaxOff + 1}[rnd.Intn(3)]
	case n < 8 && ok:
		return left
	case n < 12 && ok && left > 0:
		return left - 1
	case n < 14 && ok:
		return left + rnd.Intn(1000)
	case n < 20:
		return 0
	}
	return rnd.Intn(w.slow)
}

// answers has the i-th copy of data arrive.
func (w *world) answers(i int) {
	d := w.data[i]
	again, sacks := w.ear.take(d.span)
	most := api.MaxBlocks
	opt := api.Options{}
	if w.ts {
		opt.Ts, opt.Ecr = true, d.val
		most = 3
	}
	opt.Blocks = dup.Blocks(w.c.First, again, sacks...)
	opt.Blocks = opt.Blocks[:min(most, len(opt.Blocks))]
	w.back = append(w.back, ackOf(w.c.First, w.ear.next, opt))
}

// turn is which one of n has its turn: most often the first one.
func (w *world) turn(rnd *rand.Rand, n int) int {
	if rnd.Intn(100) < w.mess {
		return rnd.Intn(n)
	}
	return 0
}

// lie is an acknowledgement of what the receiver did not say.
func (w *world) lie(rnd *rand.Rand) []byte {
	s := w.s.State()
	near := func() int { return s.Una - 10 + rnd.Intn(s.Nxt-s.Una+20) }
	switch rnd.Intn(6) {
	case 0:
		p := make([]byte, rnd.Intn(30))
		rnd.Read(p)
		return p
	case 1:
		return rawOf(w.c.First, s.Una, s.Now, text(api.Span{From: 0, To: 5}))
	case 2:
		return ackOf(w.c.First, s.Nxt+1+rnd.Intn(70000), api.Options{})
	case 3:
		return ackOf(w.c.First, s.Una-rnd.Intn(140000), api.Options{})
	}
	var opt api.Options
	for range rnd.Intn(4) {
		from := near()
		opt.Blocks = append(opt.Blocks, api.Block{Left: w.c.First + uint32(from), Right: w.c.First + uint32(from+rnd.Intn(20)-1)})
	}
	return ackOf(w.c.First, near(), opt)
}

// step does one thing, whatever it is.
func (w *world) step(t *testing.T, rnd *rand.Rand, lies bool) {
	t.Helper()
	switch n := rnd.Intn(100); {
	case n < 15:
		w.write(t, rnd.Intn(4*w.c.Mss+2))
	case n < 16:
		w.write(t, w.c.Buffer+rnd.Intn(10))
	case n < 45:
		w.tick(t, w.passes(rnd))
	case n < 72 && len(w.data) > 0:
		i := w.turn(rnd, len(w.data))
		if rnd.Intn(100) >= w.loss {
			w.answers(i)
		}
		if rnd.Intn(100) >= w.mess {
			w.data = slices.Delete(w.data, i, i+1)
		}
	case n < 98 && len(w.back) > 0:
		i := w.turn(rnd, len(w.back))
		raw := w.back[i]
		if rnd.Intn(100) >= w.mess {
			w.back = slices.Delete(w.back, i, i+1)
		}
		if rnd.Intn(100) >= w.loss {
			w.ack(t, raw)
		}
	case n >= 98 && lies:
		w.ack(t, w.lie(rnd))
	}
}

// met is how often what is rare was met.
type met struct{ undone, forced, mended, both, late int }

// P22.1 to P22.11: senders that go their own ways, beside the model.
func TestAnyWay(t *testing.T) {
	rnd := rand.New(rand.NewSource(22))
	var sum met
	for i := range 600 {
		l := []*world{newWorld(t, rnd)}
		lies := i%3 == 0
		for range 500 {
			w := l[rnd.Intn(len(l))]
			if rnd.Intn(150) == 0 {
				l = append(l[:min(len(l), 2)], w.clone())
			}
			w.step(t, rnd, lies)
		}
		for _, w := range l {
			w.mustBeAlike(t)
			sum.undone += w.m.undone
			sum.forced += w.m.forced
			sum.mended += w.m.mended
			sum.both += w.m.both
			sum.late += w.m.late
		}
	}
	if sum.undone-sum.forced < 20 || sum.forced < 20 || sum.mended < 20 || sum.both < 20 || sum.late < 20 {
		t.Errorf("too little was met: %+v", sum)
	}
}
