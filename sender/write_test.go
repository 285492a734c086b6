package sender_test

import (
	"testing"

	"undertow/api"
	"undertow/segment"
	"undertow/sender"
)

// P22.2: of Mss bytes, or as many as were written and not sent.
func TestWrite(t *testing.T) {
	x := start(t, plain())
	x.write(0)
	x.silent()
	x.write(25, fresh(0, 10), fresh(10, 20), fresh(20, 25))
	x.is(sender.State{Nxt: 25, End: 25, Cwnd: 100, Thresh: 1000, Pipe: 25, Rto: 100000})
	x.write(0)
	x.write(5, fresh(25, 30))
	x.tick(7)
	x.write(11, fresh(30, 40), fresh(40, 41))
	x.is(sender.State{Nxt: 41, End: 41, Cwnd: 100, Thresh: 1000, Pipe: 41, Rto: 100000, Now: 7})
	x.rings(100000)
}

// P22.2: the bytes of a segment, one by one; its number goes round.
func TestWhatGoes(t *testing.T) {
	c := plain()
	c.First = 4294967295
	x := start(t, c)
	x.tick(1<<40 + 258)
	l, e := x.s.Write([]byte{7, 8, 9, 10, 11, 12, 13, 14, 15, 16, 17, 18})
	if e != api.OK || len(l) != 2 || l[0].Kind != api.SendNew || l[1].Span != to(10, 12) {
		t.Fatal(l, e)
	}
	for i, want := range []api.Segment{
		{Kind: api.SegData, Num: 4294967295, Opt: api.Options{Ts: true, Val: 258}, Body: []byte{7, 8, 9, 10, 11, 12, 13, 14, 15, 16}},
		{Kind: api.SegData, Num: 9, Opt: api.Options{Ts: true, Val: 258}, Body: []byte{17, 18}},
	} {
		if got, e := segment.Decode(l[i].Raw); e != api.OK || !segment.Same(got, want) {
			t.Errorf("%+v, %d, not %+v", got, e, want)
		}
	}
}

// P22.2: so many as the window has room for, whole ones alone.
func TestWriteAndTheWindow(t *testing.T) {
	for _, c := range []struct {
		start, n int
		want     []one
	}{
		{20, 100, run(0, 20)},
		{25, 100, run(0, 20)},
		{29, 100, run(0, 20)},
		{30, 100, run(0, 30)},
		{25, 25, run(0, 25)},
		{24, 25, run(0, 20)},
		{10, 100, run(0, 10)},
		{10, 9, run(0, 9)},
	} {
		conf := plain()
		conf.Start = c.start
		x := start(t, conf)
		x.write(c.n, c.want...)
		went := 10 * len(c.want)
		if c.n < went {
			went = c.n
		}
		x.is(sender.State{Nxt: went, End: c.n, Cwnd: c.start, Thresh: 1000, Pipe: went, Rto: 100000})
		x.write(0)
	}
}

// P22.2: the buffer's error.
func TestWriteTooMuch(t *testing.T) {
	c := plain()
	c.Buffer = 30
	x := start(t, c)
	refused := func(n int) {
		t.Helper()
		state := x.s.State()
		if l, e := x.s.Write(make([]byte, n)); l != nil || e != api.ErrFull {
			t.Fatal(l, e)
		}
		x.is(state)
	}
	refused(31)
	x.silent()
	x.write(25, run(0, 25)...)
	refused(6)
	x.write(5, fresh(25, 30))
	refused(1)
	x.write(0)
	x.tick(10)
	// What has come above a gap still stands in the buffer.
	x.ack(0, spans(to(10, 20)))
	refused(1)
	x.ack(20, nil)
	refused(21)
	x.write(20, fresh(30, 40), fresh(40, 50))
	refused(1)
}

// P22.2, P22.11: what is handed in is not kept, what is answered is new.
func TestBytesAreNotShared(t *testing.T) {
	x := start(t, plain())
	p := text(to(0, 20))
	p = append(p[:20:20], 1, 2, 3)
	l, e := x.s.Write(p[:20])
	x.mustGo(l, e, run(0, 20))
	for i := range p {
		p[i] = 0
	}
	for _, one := range l {
		for i := range one.Raw {
			one.Raw[i] = 0
		}
	}
	// The timer has both of them go again in turn.
	x.tick(100000, again(0, 10))
	x.ack(10, nil, again(10, 20))
}

// Of nil
func TestOfNil(t *testing.T) {
	var s *sender.Sender
	for range 2 {
		if l, e := s.Write([]byte{1}); l != nil || e != api.ErrNil {
			t.Error(l, e)
		}
		if l, e := s.Write(nil); l != nil || e != api.ErrNil {
			t.Error(l, e)
		}
		if l, e := s.Ack(nil); l != nil || e != api.ErrNil {
			t.Error(l, e)
		}
		if l, e := s.Ack(ackOf(0, 0, api.Options{})); l != nil || e != api.ErrNil {
			t.Error(l, e)
		}
		if l, e := s.Tick(-1); l != nil || e != api.ErrNil {
			t.Error(l, e)
		}
		if l, e := s.Tick(5); l != nil || e != api.ErrNil {
			t.Error(l, e)
		}
		if s.State() != (sender.State{}) || s.Lost() != nil || s.Sacked() != nil || s.Clone() != nil {
			t.Error("something of nil")
		}
		if at, ok := s.Deadline(); at != 0 || ok {
			t.Error(at, ok)
		}
	}
}

// P1: nothing is promised of the zero value, but that no call panics.
func TestTheZeroValue(t *testing.T) {
	var s sender.Sender
	s.Write(nil)
	s.Write([]byte{1})
	s.Tick(0)
	s.Tick(5)
	s.Tick(-5)
	s.Ack(nil)
	s.Ack(ackOf(0, 0, api.Options{Blocks: []api.Block{{Left: 5, Right: 6}}}))
	s.Ack(ackOf(0, 1, api.Options{}))
	s.State()
	s.Deadline()
	s.Lost()
	s.Sacked()
	s.Clone().Write(nil)
}
