package sender_test

import (
	"bytes"
	"math"
	"reflect"
	"slices"
	"testing"

	"undertow/api"
	"undertow/segment"
	"undertow/sender"
)

// The calls with the types that the chapter lists.
var (
	_ func(api.Config) api.Errno                           = sender.Check
	_ func(api.Config) (*sender.Sender, api.Errno)         = sender.New
	_ func(*sender.Sender, []byte) ([]api.Send, api.Errno) = (*sender.Sender).Write
	_ func(*sender.Sender, []byte) ([]api.Send, api.Errno) = (*sender.Sender).Ack
	_ func(*sender.Sender, int) ([]api.Send, api.Errno)    = (*sender.Sender).Tick
	_ func(*sender.Sender) sender.State                    = (*sender.Sender).State
	_ func(*sender.Sender) (int, bool)                     = (*sender.Sender).Deadline
	_ func(*sender.Sender) []api.Span                      = (*sender.Sender).Lost
	_ func(*sender.Sender) []api.Span                      = (*sender.Sender).Sacked
	_ func(*sender.Sender) *sender.Sender                  = (*sender.Sender).Clone
)

// What a sender is made of is none of its own calls.
func TestASenderHasNoOtherCalls(t *testing.T) {
	var got []string
	for m := range reflect.TypeFor[*sender.Sender]().Methods() {
		got = append(got, m.Name)
	}
	slices.Sort(got)
	if want := []string{"Ack", "Clone", "Deadline", "Lost", "Sacked", "State", "Tick", "Write"}; !slices.Equal(got, want) {
		t.Error(got)
	}
	for _, f := range reflect.VisibleFields(reflect.TypeFor[sender.Sender]()) {
		if f.IsExported() {
			t.Errorf("field %s", f.Name)
		}
	}
}

// text is the bytes of a span of all that is written.
func text(s api.Span) []byte {
	var p []byte
	for off := s.From; off < s.To; off++ {
		p = append(p, byte(31*off+off/251))
	}
	return p
}

// rawOf is the bytes of a segment of data.
func rawOf(first uint32, from, now int, body []byte) []byte {
	raw, _ := segment.Encode(api.Segment{Kind: api.SegData, Num: first + uint32(from), Opt: api.Options{Ts: true, Val: uint32(now)}, Body: body})
	return raw
}

// ackOf is the bytes of an acknowledgement.
func ackOf(first uint32, to int, opt api.Options) []byte {
	raw, _ := segment.Encode(api.Segment{Kind: api.SegAck, Num: first + uint32(to), Opt: opt})
	return raw
}

// to is a span.
func to(from, to int) api.Span {
	return api.Span{From: from, To: to}
}

// same tells whether two lists of sends are the same.
func same(a, b []api.Send) bool {
	return slices.EqualFunc(a, b, func(a, b api.Send) bool {
		return a.Kind == b.Kind && a.Span == b.Span && bytes.Equal(a.Raw, b.Raw)
	})
}

// of is a sender to which nothing was done.
func of(t *testing.T, c api.Config) *sender.Sender {
	t.Helper()
	s, e := sender.New(c)
	if s == nil || e != api.OK {
		t.Fatalf("New(%+v): %d", c, e)
	}
	return s
}

// one is a segment that goes.
type one struct{ kind, from, to int }

func fresh(from, to int) one { return one{api.SendNew, from, to} }
func again(from, to int) one { return one{api.SendAgain, from, to} }
func tail(from, to int) one  { return one{api.SendProbe, from, to} }

// run is what goes new from one offset up to another one, in segments of 10 bytes.
func run(from, to int) []one {
	var l []one
	for ; from < to; from += 10 {
		l = append(l, fresh(from, min(from+10, to)))
	}
	return l
}

// side is a sender that is looked at closely.
type side struct {
	t *testing.T
	c api.Config
	s *sender.Sender
}

// plain is a configuration of small numbers; the first number is one from which on they soon go round.
func plain() api.Config {
	return api.Config{First: 4294967280, Mss: 10, Buffer: 1000, Start: 100, Most: 1000, MinRto: 100, MaxRto: 100000}
}

// start is a side of a sender to which nothing was done.
func start(t *testing.T, c api.Config) side {
	t.Helper()
	return side{t, c, of(t, c)}
}

// clone is a side of a clone.
func (x side) clone() side {
	x.s = x.s.Clone()
	return x
}

// mustGo fails if something else went, or with other bytes.
func (x side) mustGo(got []api.Send, e api.Errno, want []one) {
	x.t.Helper()
	var l []api.Send
	for _, w := range want {
		s := to(w.from, w.to)
		l = append(l, api.Send{Kind: w.kind, Span: s, Raw: rawOf(x.c.First, w.from, x.s.State().Now, text(s))})
	}
	if e != api.OK || !same(got, l) {
		x.t.Fatalf("%v, %d, not\n%v", got, e, l)
	}
}

// write writes so many bytes, upon which this must go.
func (x side) write(n int, want ...one) {
	x.t.Helper()
	end := x.s.State().End
	l, e := x.s.Write(text(to(end, end+n)))
	x.mustGo(l, e, want)
}

// tick lets time go by, upon which this must go.
func (x side) tick(dt int, want ...one) {
	x.t.Helper()
	l, e := x.s.Tick(dt)
	x.mustGo(l, e, want)
}

// blocks is spans as blocks.
func (x side) blocks(l []api.Span) []api.Block {
	var b []api.Block
	for _, s := range l {
		b = append(b, api.Block{Left: x.c.First + uint32(s.From), Right: x.c.First + uint32(s.To)})
	}
	return b
}

// spans is a list of spans.
func spans(l ...api.Span) []api.Span { return l }

// ack has an acknowledgement come, upon which this must go.
func (x side) ack(num int, l []api.Span, want ...one) {
	x.t.Helper()
	got, e := x.s.Ack(ackOf(x.c.First, num, api.Options{Blocks: x.blocks(l)}))
	x.mustGo(got, e, want)
}

// echo has one come that tells a time.
func (x side) echo(num int, ecr uint32, l []api.Span, want ...one) {
	x.t.Helper()
	got, e := x.s.Ack(ackOf(x.c.First, num, api.Options{Ts: true, Ecr: ecr, Blocks: x.blocks(l)}))
	x.mustGo(got, e, want)
}

// refuses has an acknowledgement come that must be refused, and change nothing but Bad.
func (x side) refuses(raw []byte, want api.Errno) {
	x.t.Helper()
	state := x.s.State()
	state.Bad++
	lost, sacked := x.s.Lost(), x.s.Sacked()
	at, ok := x.s.Deadline()
	l, e := x.s.Ack(raw)
	if l != nil || e != want {
		x.t.Fatalf("%v, %d, not %d", l, e, want)
	}
	x.is(state)
	x.lost(lost...)
	x.sacked(sacked...)
	if ok {
		x.rings(at)
	} else {
		x.silent()
	}
}

// is fails if the sender stands otherwise.
func (x side) is(want sender.State) {
	x.t.Helper()
	if got := x.s.State(); got != want {
		x.t.Fatalf("\n%+v, not\n%+v", got, want)
	}
}

// lost fails if something else is deemed lost.
func (x side) lost(want ...api.Span) {
	x.t.Helper()
	if got := x.s.Lost(); !slices.Equal(got, want) {
		x.t.Fatalf("lost: %v, not %v", got, want)
	}
}

// sacked fails if something else is sacked.
func (x side) sacked(want ...api.Span) {
	x.t.Helper()
	if got := x.s.Sacked(); !slices.Equal(got, want) {
		x.t.Fatalf("sacked: %v, not %v", got, want)
	}
}

// rings fails if the first alarm rings at another time.
func (x side) rings(want int) {
	x.t.Helper()
	if at, ok := x.s.Deadline(); at != want || !ok {
		x.t.Fatalf("rings at %d, %t, not %d", at, ok, want)
	}
}

// silent fails if an alarm is set.
func (x side) silent() {
	x.t.Helper()
	if at, ok := x.s.Deadline(); at != 0 || ok {
		x.t.Fatalf("rings at %d, %t", at, ok)
	}
}

func TestExamples(t *testing.T) {
	x := start(t, api.Config{Mss: 10, Buffer: 100, Start: 20, Most: 1000, MinRto: 100, MaxRto: 10000})
	x.write(30, fresh(0, 10), fresh(10, 20))
	x.ack(10, nil, fresh(20, 30))
	x.tick(20000, tail(20, 30), again(10, 20))
	x.is(sender.State{Mode: api.Loss, Una: 10, Nxt: 30, End: 30, Cwnd: 10, Thresh: 20, Pipe: 10, Rto: 200, Now: 20000, Recover: 30, Late: 1, Pending: 2, Cut: true})
}

// P22.1
func TestCheck(t *testing.T) {
	good := plain()
	for _, c := range []struct {
		set  func(c *api.Config)
		want api.Errno
	}{
		{func(c *api.Config) {}, api.OK},
		{func(c *api.Config) { c.First = 0 }, api.OK},
		{func(c *api.Config) { c.First = math.MaxUint32 }, api.OK},
		{func(c *api.Config) { c.Mss = 1 }, api.OK},
		{func(c *api.Config) { c.Mss = 0 }, api.ErrArg},
		{func(c *api.Config) { c.Mss = math.MinInt }, api.ErrArg},
		{func(c *api.Config) { c.Mss, c.Start, c.Most = 2048, 2048, 2048 }, api.OK},
		{func(c *api.Config) { c.Mss, c.Start, c.Most = 2049, 2049, 2049 }, api.ErrArg},
		{func(c *api.Config) { c.Buffer = 1 }, api.OK},
		{func(c *api.Config) { c.Buffer = 0 }, api.ErrArg},
		{func(c *api.Config) { c.Buffer = 65536 }, api.OK},
		{func(c *api.Config) { c.Buffer = 65537 }, api.ErrArg},
		{func(c *api.Config) { c.Most = 1 << 20 }, api.OK},
		{func(c *api.Config) { c.Most = 1<<20 + 1 }, api.ErrArg},
		{func(c *api.Config) { c.Most = 99 }, api.ErrArg},
		{func(c *api.Config) { c.Start, c.Most = 10, 10 }, api.OK},
		{func(c *api.Config) { c.Start, c.Most = 9, 9 }, api.ErrArg},
		{func(c *api.Config) { c.Start, c.Most = 10, 9 }, api.ErrArg},
		{func(c *api.Config) { c.Start = 9 }, api.ErrArg},
		{func(c *api.Config) { c.Start = 1000 }, api.OK},
		{func(c *api.Config) { c.Start = 1001 }, api.ErrArg},
		{func(c *api.Config) { c.MinRto = 1 }, api.OK},
		{func(c *api.Config) { c.MinRto = 0 }, api.ErrArg},
		{func(c *api.Config) { c.MinRto = 100000 }, api.OK},
		{func(c *api.Config) { c.MinRto = 100001 }, api.ErrArg},
		{func(c *api.Config) { c.MinRto, c.MaxRto = 0, 0 }, api.ErrArg},
		{func(c *api.Config) { c.MinRto, c.MaxRto = -5, -5 }, api.ErrArg},
		{func(c *api.Config) { c.MinRto, c.MaxRto = 1<<36, 1<<36 }, api.OK},
		{func(c *api.Config) { c.MaxRto = 1<<36 + 1 }, api.ErrArg},
		{func(c *api.Config) { c.MaxRto = math.MaxInt }, api.ErrArg},
		{func(c *api.Config) { c.Floor = 0 }, api.OK},
		{func(c *api.Config) { c.Floor = -1 }, api.ErrArg},
		{func(c *api.Config) { c.Floor = 1 << 36 }, api.OK},
		{func(c *api.Config) { c.Floor = 1<<36 + 1 }, api.ErrArg},
		{func(c *api.Config) { *c = api.Config{} }, api.ErrArg},
	} {
		one := good
		c.set(&one)
		if got := sender.Check(one); got != c.want {
			t.Errorf("Check(%+v): %d", one, got)
		}
		if s, e := sender.New(one); e != c.want || (s != nil) != (c.want == api.OK) {
			t.Errorf("New(%+v): %v, %d", one, s, e)
		}
	}
}

// P22.1: nothing was done to it.
func TestNew(t *testing.T) {
	x := start(t, plain())
	x.is(sender.State{Cwnd: 100, Thresh: 1000, Rto: 100000})
	x.silent()
	x.lost()
	x.sacked()
	c := plain()
	c.MaxRto = 1 << 30
	start(t, c).is(sender.State{Cwnd: 100, Thresh: 1000, Rto: 1000000})
}
