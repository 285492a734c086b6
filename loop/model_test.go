package loop_test

import (
	"bytes"
	"math"
	"math/rand"
	"reflect"
	"slices"
	"testing"

	"undertow/api"
	"undertow/duct"
	"undertow/loop"
	"undertow/reply"
	"undertow/segment"
	"undertow/sender"
)

// one is a copy, and what became of it.
type one struct {
	fate duct.Fate
	raw  []byte
}

// way is all copies that there ever were, one way.
type way []one

// flying is the numbers of those that are under way.
func (w way) flying() []int {
	var l []int
	for id, o := range w {
		if o.fate.Kind == duct.Flying {
			l = append(l, id)
		}
	}
	return l
}

// put puts bytes under way, and answers their number, or -1.
func (w *way) put(raw []byte, now int) int {
	if len(w.flying()) >= api.MaxFlight {
		return -1
	}
	*w = append(*w, one{duct.Fate{Of: len(*w), At: now}, raw})
	return len(*w) - 1
}

// end lets something become of the n-th one under way.
func (w way) end(n, now, kind int) ([]byte, api.Errno) {
	l := w.flying()
	if n < 0 || n >= len(l) {
		return nil, api.ErrNone
	}
	o := &w[l[n]]
	o.fate.End, o.fate.Kind = now, kind
	return o.raw, api.OK
}

// double doubles the n-th one under way.
func (w *way) double(n int) api.Errno {
	l := w.flying()
	if n < 0 || n >= len(l) {
		return api.ErrNone
	}
	if len(l) >= api.MaxFlight {
		return api.ErrFull
	}
	*w = append(*w, (*w)[l[n]])
	return api.OK
}

// model is what the chapter says, in words as near as may be.
type model struct {
	first      uint32
	s          *sender.Sender
	r          *reply.Reply
	data, back way
	trans      []loop.Trans
	marks      []loop.Mark
	answers    []loop.Answer
	wrote      []byte
	had        map[int]bool // the offsets of what the receiver took
}

func newModel(c api.Config) *model {
	m := &model{first: c.First, had: map[int]bool{}}
	m.s, _ = sender.New(c)
	m.r, _ = reply.New(c.First, api.MaxBuffer)
	return m
}

func (m *model) clone() *model {
	c := *m
	c.s, c.r = m.s.Clone(), m.r.Clone()
	c.data, c.back = slices.Clone(m.data), slices.Clone(m.back)
	c.trans, c.marks, c.answers, c.wrote = slices.Clone(m.trans), slices.Clone(m.marks), slices.Clone(m.answers), slices.Clone(m.wrote)
	c.had = map[int]bool{}
	for off := range m.had {
		c.had[off] = true
	}
	return &c
}

func (m *model) now() int { return m.s.State().Now }

// do is what Do must answer.
func (m *model) do(o loop.Op) api.Errno {
	switch o.Kind {
	case 0:
		e := m.call(func() ([]api.Send, api.Errno) { return m.s.Write(o.B) })
		if e == api.OK {
			m.wrote = append(m.wrote, o.B...)
		}
		return e
	case 1:
		return m.call(func() ([]api.Send, api.Errno) { return m.s.Tick(o.N) })
	case 2:
		return m.arrive(o.N)
	case 3:
		_, e := m.data.end(o.N, m.now(), duct.Dropped)
		return e
	case 4:
		return m.data.double(o.N)
	case 5:
		raw, e := m.back.end(o.N, m.now(), duct.Came)
		if e != api.OK {
			return e
		}
		return m.call(func() ([]api.Send, api.Errno) { return m.s.Ack(raw) })
	case 6:
		_, e := m.back.end(o.N, m.now(), duct.Dropped)
		return e
	case 7:
		return m.back.double(o.N)
	}
	return api.ErrKind
}

// arrive has the n-th copy of data come.
func (m *model) arrive(n int) api.Errno {
	raw, e := m.data.end(n, m.now(), duct.Came)
	if e != api.OK {
		return e
	}
	answer, e := m.r.Take(raw)
	if e != api.OK {
		return e
	}
	seg, _ := segment.Decode(raw)
	again := false
	for i := range seg.Body {
		off := int(seg.Num - m.first + uint32(i))
		again = again || m.had[off]
		m.had[off] = true
	}
	m.answers = append(m.answers, loop.Answer{At: m.now(), Id: m.back.put(answer, m.now()), IsDup: again})
	return api.OK
}

// with tells whether a list has a span with this To.
func with(l []api.Span, s api.Span) bool {
	return slices.ContainsFunc(l, func(o api.Span) bool { return o.To == s.To })
}

// call does a call of the sender.
func (m *model) call(does func() ([]api.Send, api.Errno)) api.Errno {
	ahead, late := m.s.Lost(), m.s.State().Late
	went, e := does()
	if e != api.OK {
		return e
	}
	var first, others []api.Span
	for _, o := range went {
		if o.Kind == api.SendAgain && !with(ahead, o.Span) && !with(first, o.Span) {
			first = append(first, o.Span)
		}
	}
	for _, s := range m.s.Lost() {
		if !with(ahead, s) && !with(first, s) {
			others = append(others, s)
		}
	}
	slices.SortFunc(others, func(a, b api.Span) int { return a.From - b.From })
	for _, s := range append(first, others...) {
		n := len(m.trans) - 1
		for n >= 0 && m.trans[n].Span.To != s.To {
			n--
		}
		m.marks = append(m.marks, loop.Mark{Span: s, At: m.now(), Trans: n, Timer: m.s.State().Late > late})
	}
	for _, o := range went {
		m.trans = append(m.trans, loop.Trans{Kind: o.Kind, Span: o.Span, At: m.now(), Id: m.data.put(o.Raw, m.now())})
	}
	return api.OK
}

// told is all that a loop must tell.
func (m *model) told() all {
	a := all{state: m.s.State(), text: m.r.Text(), trans: m.trans, marks: m.marks, answers: m.answers, flies: len(m.data.flying()), comes: len(m.back.flying())}
	for _, o := range m.data {
		a.data = append(a.data, o.fate)
	}
	for _, o := range m.back {
		a.back = append(a.back, o.fate)
	}
	return a
}

// world is a loop, the model that it must be like, and how its net is.
type world struct {
	c          api.Config
	l          *loop.Loop
	m          *model
	loss, mess int // of a hundred copies so many are dropped; so many come out of their turn, or twice
	slow       int // how long a step may take
}

// newWorld is one of which nobody knows how it is, now and then near the end of all times.
func newWorld(t *testing.T, rnd *rand.Rand) *world {
	t.Helper()
	mss := 1 + rnd.Intn(12)
	most := mss * (1 + rnd.Intn(60))
	c := api.Config{
		First: rnd.Uint32(), Mss: mss, Buffer: 1 + rnd.Intn(60*mss), Most: most, Start: mss + rnd.Intn(most-mss+1),
		MinRto: 1 + rnd.Intn(300), Floor: rnd.Intn(3) * rnd.Intn(20),
	}
	c.MaxRto = c.MinRto + rnd.Intn(5000)
	w := &world{c: c, l: of(t, c), m: newModel(c), loss: rnd.Intn(3) * rnd.Intn(15), mess: rnd.Intn(3) * rnd.Intn(15), slow: 1 + rnd.Intn(40)}
	if rnd.Intn(12) == 0 {
		w.do(t, loop.Op{Kind: loop.Tick, N: api.MaxOff - rnd.Intn(3000)})
	}
	return w
}

// clone is the same, going its own way.
func (w *world) clone() *world {
	c := *w
	c.l, c.m = w.l.Clone(), w.m.clone()
	return &c
}

// do does something to both, and fails if they go apart, or if what follows (P26.4) does not hold.
func (w *world) do(t *testing.T, o loop.Op) {
	t.Helper()
	e, want := w.l.Do(o), w.m.do(o)
	if e != want {
		t.Fatalf("kind %d of %d: %d, not %d", o.Kind, o.N, e, want)
	}
	w.mustBeAlike(t)
	p := w.l.Text()
	if !bytes.HasPrefix(w.m.wrote, p) || w.l.State().Una > len(p) {
		t.Fatalf("Una %d, and %v has come of %v", w.l.State().Una, p, w.m.wrote)
	}
}

// mustBeAlike fails if the loop is not as the model is.
func (w *world) mustBeAlike(t *testing.T) {
	t.Helper()
	if got, want := told(w.l), w.m.told(); !reflect.DeepEqual(got, want) {
		t.Fatalf("\n%+v, not\n%+v", got, want)
	}
}

// passes is how long a step takes: most often less than till something rings, now and then much longer.
func (w *world) passes(rnd *rand.Rand) int {
	at, ok := w.m.s.Deadline()
	left := at - w.m.now()
	switch n := rnd.Intn(60); {
	case n == 0:
		return []int{-1 - rnd.Intn(5), math.MinInt, math.MaxInt, api.MaxOff + 1}[rnd.Intn(4)]
	case n < 8 && ok:
		return left
	case n < 12 && ok && left > 0:
		return left - 1
	case n < 15 && ok:
		return left + rnd.Intn(1000)
	case n < 20:
		return 0
	}
	return rnd.Intn(w.slow)
}

// step does one thing, whatever it is.
func (w *world) step(t *testing.T, rnd *rand.Rand) {
	t.Helper()
	data, back := w.l.Flying()
	switch n := rnd.Intn(100); {
	case n < 15:
		size := rnd.Intn(4*w.c.Mss + 2)
		if rnd.Intn(15) == 0 {
			size = w.c.Buffer + rnd.Intn(10)
		}
		p := make([]byte, size)
		rnd.Read(p)
		w.do(t, loop.Op{B: p})
	case n < 45:
		w.do(t, loop.Op{Kind: loop.Tick, N: w.passes(rnd)})
	case n < 71:
		w.fate(t, rnd, loop.Data, data)
	case n < 97:
		w.fate(t, rnd, loop.Back, back)
	default:
		kind := rnd.Intn(12) - 2
		w.do(t, loop.Op{Kind: kind, N: rnd.Intn(6) - 2})
	}
}

// fate decides what becomes of one of n copies: most often the first one comes.
func (w *world) fate(t *testing.T, rnd *rand.Rand, comes, n int) {
	t.Helper()
	i := 0
	if rnd.Intn(100) < w.mess {
		i = rnd.Intn(n + 1)
	}
	if rnd.Intn(100) < w.mess {
		w.do(t, loop.Op{Kind: comes + 2, N: i})
	}
	if rnd.Intn(100) < w.loss {
		comes++
	}
	w.do(t, loop.Op{Kind: comes, N: i})
}

// met is how often what is rare was met.
type met struct{ rang, late, twice, unsent, again, dup, all int }

// count counts what a world met.
func (m *met) count(l *loop.Loop) {
	seen := map[int]bool{}
	for _, o := range l.Marks() {
		switch {
		case o.Timer:
			m.rang++
		default:
			m.late++
		}
		if seen[o.Span.To] {
			m.twice++
		}
		seen[o.Span.To] = true
		if o.Trans == -1 {
			m.unsent++
		} else if l.Trans()[o.Trans].Kind != api.SendNew {
			m.again++
		}
	}
	for _, a := range l.Answers() {
		if a.IsDup {
			m.dup++
		}
	}
	m.all += l.State().Una
}

// P26.1 to P26.4: some that go their own ways, beside the model.
func TestAnyWay(t *testing.T) {
	rnd := rand.New(rand.NewSource(26))
	var sum met
	for range 250 {
		l := []*world{newWorld(t, rnd)}
		for range 400 {
			w := l[rnd.Intn(len(l))]
			if rnd.Intn(150) == 0 {
				l = append(l[:min(len(l), 2)], w.clone())
			}
			w.step(t, rnd)
		}
		for _, w := range l {
			w.mustBeAlike(t)
			sum.count(w.l)
		}
	}
	if sum.rang < 100 || sum.late < 100 || sum.twice < 100 || sum.unsent < 10 || sum.again < 100 || sum.dup < 100 || sum.all < 10000 {
		t.Errorf("too little was met: %+v", sum)
	}
}

// P26.4: with the greatest segments, whose numbers go round, and more bytes than the receiver has room for at a time.
func TestTheGreatest(t *testing.T) {
	rnd := rand.New(rand.NewSource(4))
	for _, loss := range []int{0, 5} {
		c := api.Config{First: 1<<32 - 50000, Mss: api.MaxMss, Buffer: api.MaxBuffer, Start: 1 << 16, Most: 1 << 20, MinRto: 200, MaxRto: 10000}
		w := &world{c: c, l: of(t, c), m: newModel(c), loss: loss, mess: 2 * loss, slow: 60}
		for len(w.m.wrote) < 3*api.MaxBuffer {
			s := w.l.State()
			p := make([]byte, min(1+rnd.Intn(3*api.MaxMss), api.MaxBuffer-(s.End-s.Una)))
			rnd.Read(p)
			w.do(t, loop.Op{B: p})
			for range 4 {
				w.step(t, rnd)
			}
		}
		if n := len(w.l.Text()); n < 2*api.MaxBuffer {
			t.Errorf("only %d bytes have come", n)
		}
	}
}
