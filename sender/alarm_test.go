package sender_test

import (
	"testing"

	"undertow/api"
	"undertow/sender"
)

// probed is a side on which the last of 30 bytes went once more, at 30, as a probe.
func probed(t *testing.T) side {
	t.Helper()
	x := start(t, plain())
	x.write(30, run(0, 30)...)
	x.tick(10)
	x.ack(10, nil)
	x.tick(20, tail(20, 30))
	x.is(sender.State{Una: 10, Nxt: 30, End: 30, Cwnd: 110, Thresh: 1000, Pipe: 30, Srtt: 10, Rto: 100, Now: 30, Pending: 1})
	x.rings(110)
	return x
}

// P22.4 (6): the probe mended a loss, of which nothing else tells.
func TestTheProbeMendedALoss(t *testing.T) {
	x := probed(t)
	x.tick(1)
	x.write(10, fresh(30, 40))
	x.tick(10)
	x.ack(40, nil)
	// The flight is none: the threshold is 20. The window grows by one segment behind that, as more came than it has.
	x.is(sender.State{Una: 40, Nxt: 40, End: 40, Cwnd: 30, Thresh: 20, Srtt: 10, Rto: 100, Now: 41, Pending: 1, Cut: true})
	x.silent()
	// What came once more gives it back.
	x.ack(40, spans(to(20, 30)))
	x.is(sender.State{Una: 40, Nxt: 40, End: 40, Cwnd: 120 - 10, Thresh: 1000, Srtt: 10, Rto: 100, Now: 41, Undone: 1})
}

// P22.4 (6): by the flight.
func TestTheProbeMendedALossOfMany(t *testing.T) {
	x := probed(t)
	x.tick(1)
	x.write(100, run(30, 110)...)
	x.tick(10)
	x.ack(40, nil)
	// Half of 70 bytes, and none more may go till the pipe is below that.
	x.is(sender.State{Una: 40, Nxt: 110, End: 130, Cwnd: 35, Thresh: 35, Pipe: 70, Srtt: 10, Rto: 100, Now: 41, Pending: 1, Cut: true})
}

// P22.4: a recovery stops the probe, so that its answer cuts nothing when the recovery is taken back.
func TestARecoveryStopsTheProbe(t *testing.T) {
	x := probed(t)
	x.tick(1)
	x.write(100, run(30, 110)...)
	x.tick(10)
	x.ack(10, spans(to(70, 80), to(80, 90), to(90, 100)), again(10, 20))
	x.lost(to(20, 30))
	x.is(sender.State{Mode: api.Recovery, Una: 10, Nxt: 110, End: 130, Cwnd: 60, Thresh: 50, Pipe: 60, Srtt: 10, Rto: 100, Now: 41, Recover: 110, Pending: 2, Cut: true})
	x.ack(10, spans(to(20, 31), to(20, 40)))
	x.is(sender.State{Mode: api.Recovery, Una: 10, Nxt: 110, End: 130, Cwnd: 50, Thresh: 50, Pipe: 50, Srtt: 10, Rto: 100, Now: 41, Recover: 110, Pending: 1, Cut: true})
	x.ack(20, spans(to(10, 20)), fresh(110, 120), fresh(120, 130))
	x.is(sender.State{Una: 20, Nxt: 130, End: 130, Cwnd: 110, Thresh: 1000, Pipe: 60, Srtt: 10, Rto: 100, Now: 41, Undone: 1, Recover: 110})
	x.ack(40, nil)
	x.is(sender.State{Una: 40, Nxt: 130, End: 130, Cwnd: 110, Thresh: 1000, Pipe: 60, Srtt: 10, Rto: 100, Now: 41, Undone: 1, Recover: 110})
}

// P22.4 (6): nothing was lost: what went for the probe came once more.
func TestTheProbeCameOnceMore(t *testing.T) {
	x := probed(t)
	x.tick(1)
	x.write(50, run(30, 80)...)
	c, d := x.clone(), x.clone()
	x.ack(20, nil)
	// It is still on: the timer alone is set.
	x.rings(131)
	x.ack(20, spans(to(20, 30), to(20, 40)))
	x.is(sender.State{Una: 20, Nxt: 80, End: 80, Cwnd: 120, Thresh: 1000, Pipe: 70, Srtt: 12, Rto: 100, Now: 31, Bad: 1})
	// It is off: the next one has its alarm.
	x.rings(55)
	// Beyond its end: that says more than the number.
	c.ack(40, spans(to(20, 30)))
	c.is(sender.State{Una: 40, Nxt: 80, End: 80, Cwnd: 120, Thresh: 1000, Pipe: 40, Srtt: 8, Rto: 100, Now: 31})
	c.rings(47)
	// Something else that came once more says nothing.
	d.ack(40, spans(to(19, 29)))
	d.is(sender.State{Una: 40, Nxt: 80, End: 80, Cwnd: 30, Thresh: 20, Pipe: 40, Srtt: 8, Rto: 100, Now: 31, Pending: 1, Cut: true})
}

// P22.4 (6): nothing was lost: two answers came, of which the second one says nothing new.
func TestTheProbeIsAnsweredTwice(t *testing.T) {
	for _, c := range []struct {
		ack   int
		l     []api.Span
		rings int
	}{
		{30, nil, 55},
		{30, spans(to(20, 30)), 55}, // what it was
		{30, spans(to(10, 20)), 131},
		{30, spans(to(30, 40)), 131}, // a block that is bad is one all the same
		{29, nil, 131},
	} {
		x := probed(t)
		x.tick(1)
		x.write(50, run(30, 80)...)
		x.echo(30, 0, nil)
		x.rings(131)
		x.ack(c.ack, c.l)
		x.rings(c.rings)
	}
	// One that says something new lets it wait for what is beyond its end.
	x := probed(t)
	x.tick(1)
	x.write(50, run(30, 80)...)
	x.ack(30, nil)
	x.ack(30, spans(to(50, 55)))
	x.ack(31, nil)
	if s := x.s.State(); !s.Cut || s.Thresh != 24 || s.Cwnd != 24 {
		t.Fatalf("%+v", s)
	}
}

// P22.6: what is waited for till a probe goes.
func TestTheAlarmOfTheProbe(t *testing.T) {
	c := plain()
	c.Floor = 7
	c.MaxRto = 1 << 30
	x := start(t, c)
	x.write(10, fresh(0, 10))
	// Nothing was measured: as long as the timer takes.
	x.rings(1000000)
	x.tick(10)
	x.write(10, fresh(10, 20))
	x.rings(1000000)
	x.ack(10, nil)
	// One alone is given the floor, too.
	x.rings(10 + 27)
	x.tick(5)
	// An answer that acknowledges no more leaves it as it is, and so does a write of which nothing goes.
	x.ack(10, nil)
	x.write(0)
	x.rings(37)
	x.write(10, fresh(20, 30))
	x.rings(15 + 20)
	x.ack(11, nil)
	x.rings(35)
	x.tick(1)
	x.ack(12, nil)
	x.rings(16 + 20)
	// It is stopped while something is sacked, and set again behind that.
	x.ack(12, spans(to(20, 21)))
	x.rings(116)
	x.tick(1)
	x.ack(21, nil)
	// It took 7, so that times are 9 now.
	x.rings(17 + 18 + 7)
	x.ack(30, nil)
	x.silent()
	x.tick(1000)
	x.write(10, fresh(30, 40))
	srtt := x.s.State().Srtt
	x.rings(1017 + 2*srtt + 7)
}

// P22.6: the probe is no later than the timer, which rings first then.
func TestTheTimerIsAheadOfTheProbe(t *testing.T) {
	c := plain()
	c.MinRto, c.Floor = 1, 50
	x := start(t, c)
	x.write(10, fresh(0, 10))
	x.tick(10)
	x.write(10, fresh(10, 20))
	x.ack(10, nil)
	// 10 and 4 times 5 for the one, twice 10 and 50 for the other.
	x.rings(40)
	x.tick(30, again(10, 20))
	if s := x.s.State(); s.Mode != api.Loss || s.Late != 1 {
		t.Fatalf("%+v", s)
	}
}

// P22.6: three times Mss bytes that are sacked are as good as time.
func TestWhatIsSharp(t *testing.T) {
	for _, c := range []struct{ from, rings int }{{70, 11}, {71, 13}, {69, 11}} {
		x := start(t, plain())
		x.write(100, run(0, 100)...)
		x.tick(10)
		x.ack(0, spans(to(c.from, 100)))
		x.rings(c.rings)
	}
	// The floor is given in any case.
	conf := plain()
	conf.Floor = 4
	x := start(t, conf)
	x.write(100, run(0, 100)...)
	x.tick(10)
	x.ack(0, spans(to(70, 100)))
	x.rings(15)
	x.tick(4)
	x.tick(1, again(0, 10))
}

// P22.4 (9), P22.6: without anything that may be late the alarm is stopped.
func TestTheAlarmOfWhatIsLate(t *testing.T) {
	x := start(t, plain())
	x.write(30, run(0, 30)...)
	x.tick(10)
	x.ack(0, spans(to(10, 20)))
	x.rings(13)
	x.ack(20, nil)
	x.rings(30)
	x = start(t, plain())
	x.write(30, run(0, 30)...)
	x.tick(10)
	x.ack(0, spans(to(10, 20)))
	x.ack(30, nil)
	x.silent()
	x.tick(1 << 40)
}

// P22.4 (10): the timer is set anew by each answer that acknowledges more, by no other one.
func TestTheTimer(t *testing.T) {
	x := start(t, plain())
	x.write(50, run(0, 50)...)
	x.rings(100000)
	x.tick(10)
	x.ack(0, spans(to(20, 50)))
	x.ack(10, nil)
	x.ack(10, spans(to(15, 20)))
	// What is missing of 10 to 20 is late at 13.
	x.rings(13)
	x.tick(3, again(10, 20))
	x.rings(110)
	x.tick(7)
	x.ack(10, spans(to(0, 10)))
	x.rings(110)
	x.ack(11, nil)
	x.rings(120)
	x.ack(50, nil)
	x.silent()
}

// P22.6: an alarm whose time would be above MaxOff is stopped.
func TestTheEndOfAllTimes(t *testing.T) {
	x := start(t, plain())
	x.tick(api.MaxOff - 50)
	x.write(30, run(0, 30)...)
	x.silent()
	x.tick(10)
	x.ack(10, nil)
	// The timer would ring at 100 from then on, but a probe goes ahead of the end.
	x.rings(api.MaxOff - 20)
	c := x.clone()
	x.tick(20, tail(20, 30))
	x.silent()
	x.tick(20)
	if l, e := x.s.Tick(1); l != nil || e != api.ErrRange {
		t.Fatal(l, e)
	}
	x.ack(30, nil)
	x.write(10, fresh(30, 40))
	x.silent()
	// What is late at the end is lost then.
	c.tick(10)
	c.ack(10, spans(to(20, 30)))
	c.rings(api.MaxOff - 27)
	d := c.clone()
	c.tick(3, again(10, 20))
	c.silent()
	d.tick(30, again(10, 20))
	d.is(sender.State{Mode: api.Recovery, Una: 10, Nxt: 30, End: 30, Cwnd: 10, Thresh: 20, Pipe: 10, Srtt: 11, Rto: 100, Now: api.MaxOff, Recover: 30, Pending: 1, Cut: true})
	// What would be late behind it is not waited for.
	for _, floor := range []int{48, 49} {
		conf := plain()
		conf.Floor = floor
		x := start(t, conf)
		x.tick(api.MaxOff - 60)
		x.write(20, run(0, 20)...)
		x.tick(11)
		x.ack(0, spans(to(10, 20)))
		if floor == 48 {
			x.rings(api.MaxOff)
		} else {
			x.silent()
		}
	}
}

// P22.4 (4), P22.7: as long as one that went again finds no room in the ledger, nothing is taken back.
func TestTheLedgerIsFull(t *testing.T) {
	for _, c := range []struct{ times, pending, undone int }{{256, 256, 1}, {257, 256, 0}} {
		conf := plain()
		conf.MaxRto = 100
		x := start(t, conf)
		x.write(10, fresh(0, 10))
		for range c.times {
			x.tick(100, again(0, 10))
		}
		if s := x.s.State(); s.Pending != c.pending || s.Late != c.times || !s.Cut {
			t.Fatalf("%+v", s)
		}
		for range 256 {
			x.ack(10, spans(to(0, 10)))
		}
		if s := x.s.State(); s.Pending != 0 || s.Undone != c.undone || s.Cut != (c.undone == 0) {
			t.Fatalf("%+v", s)
		}
	}
}

// P22.7: a clone is the same, and goes its own way.
func TestClone(t *testing.T) {
	x := gap(t, 50)
	x.tick(3, again(0, 10))
	c := x.clone()
	state, lost, sacked := x.s.State(), x.s.Lost(), x.s.Sacked()
	unchanged := func(x side) {
		t.Helper()
		x.is(state)
		x.lost(lost...)
		x.sacked(sacked...)
		x.rings(100000)
	}
	unchanged(c)
	c.ack(60, nil)
	c.tick(1<<20, again(60, 70))
	c.s.Ack(nil)
	unchanged(x)
	d := x.clone()
	x.ack(60, nil)
	x.ack(110, spans(to(0, 10)), run(110, 150)...)
	x.write(100, run(150, 210)...)
	x.tick(1000, tail(210, 220), again(110, 120))
	unchanged(d)
	var none *sender.Sender
	if none.Clone() != nil {
		t.Error("a clone of nil")
	}
}

// P22.7: what is lost and sacked is told as new memory.
func TestWhatIsAskedIsNew(t *testing.T) {
	x := start(t, plain())
	x.write(50, run(0, 50)...)
	x.tick(5)
	x.write(50, run(50, 100)...)
	x.tick(5)
	x.ack(0, spans(to(90, 100), to(70, 80)), again(0, 10), again(10, 20))
	for range 2 {
		l, k := x.s.Lost(), x.s.Sacked()
		x.lost(to(20, 30), to(30, 40), to(40, 50))
		x.sacked(to(70, 80), to(90, 100))
		for i := range l {
			l[i] = api.Span{}
		}
		for i := range k {
			k[i] = api.Span{}
		}
	}
}

// P1: many segments of one byte, of which many go again by one call.
func TestManySmallOnes(t *testing.T) {
	c := plain()
	c.Mss, c.Buffer, c.Start, c.Most = 1, 1<<16, 1<<20, 1<<20
	x := start(t, c)
	l, e := x.s.Write(text(to(0, 1<<16)))
	if len(l) != 1<<16 || e != api.OK {
		t.Fatal(len(l), e)
	}
	x.tick(50)
	x.ack(0, spans(to(30000, 60000)))
	x.tick(1, again(0, 1))
	l, e = x.s.Ack(ackOf(c.First, 20000, api.Options{}))
	if len(l) != 10000 || e != api.OK {
		t.Fatal(len(l), e)
	}
	x.is(sender.State{Mode: api.Recovery, Una: 20000, Nxt: 1 << 16, End: 1 << 16, Cwnd: 25537, Thresh: 32768, Pipe: 15536, Srtt: 50, Rto: 126, Now: 51, Recover: 1 << 16, Pending: 256, Cut: true})
}
