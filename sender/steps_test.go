package sender_test

import (
	"testing"

	"undertow/api"
	"undertow/sender"
)

// gap is a side on which 0 to 100 was sent at 0, of which 10 to 20 has come at 10: the rest of what was written has no room.
func gap(t *testing.T, more int) side {
	t.Helper()
	x := start(t, plain())
	x.write(100+more, run(0, 100)...)
	x.rings(100000)
	x.tick(10)
	if more == 0 {
		x.ack(0, spans(to(10, 20)))
	} else {
		x.ack(0, spans(to(10, 20)), fresh(100, 110))
	}
	return x
}

// P22.4 (1, 9), P22.5: the whole of a recovery.
func TestARecovery(t *testing.T) {
	x := gap(t, 0)
	x.is(sender.State{Nxt: 100, End: 100, Cwnd: 100, Thresh: 1000, Pipe: 90, Srtt: 10, Rto: 100, Now: 10})
	x.sacked(to(10, 20))
	// The one that came took 10, and a quarter of it more is given.
	x.rings(13)
	x.tick(2)
	x.lost()
	x.tick(1, again(0, 10))
	x.is(sender.State{Mode: api.Recovery, Nxt: 100, End: 100, Cwnd: 90, Thresh: 50, Pipe: 90, Srtt: 10, Rto: 100, Now: 13, Recover: 100, Pending: 1, Cut: true})
	x.lost()
	x.rings(100000)
	x.write(100)
	x.tick(1)
	// As long as the pipe is above the threshold, for each two bytes that come one goes, less the first segment.
	x.ack(0, spans(to(20, 30), to(10, 20)))
	x.is(sender.State{Mode: api.Recovery, Nxt: 100, End: 200, Cwnd: 80, Thresh: 50, Pipe: 80, Srtt: 10, Rto: 100, Now: 14, Recover: 100, Pending: 1, Cut: true})
	x.ack(0, spans(to(10, 40)))
	x.ack(0, spans(to(10, 60)))
	x.is(sender.State{Mode: api.Recovery, Nxt: 100, End: 200, Cwnd: 50, Thresh: 50, Pipe: 50, Srtt: 10, Rto: 100, Now: 14, Recover: 100, Pending: 1, Cut: true})
	x.ack(0, spans(to(10, 70)), fresh(100, 110))
	x.is(sender.State{Mode: api.Recovery, Nxt: 110, End: 200, Cwnd: 50, Thresh: 50, Pipe: 50, Srtt: 10, Rto: 100, Now: 14, Recover: 100, Pending: 1, Cut: true})
	x.tick(10)
	// It ends with what was sent when it began; the window does not grow by what ended it.
	x.ack(100, nil, run(110, 150)...)
	x.is(sender.State{Una: 100, Nxt: 150, End: 200, Cwnd: 50, Thresh: 50, Pipe: 50, Srtt: 11, Rto: 100, Now: 24, Recover: 100, Pending: 1, Cut: true})
	x.sacked()
	x.rings(46)
}

// P22.4 (9): a recovery that begins by an acknowledgement is told what that delivered.
func TestARecoveryByAnAcknowledgement(t *testing.T) {
	x := start(t, plain())
	x.write(200, run(0, 100)...)
	x.tick(10)
	// 3 segments are as good as time: the rest that was sent at 0 is lost as soon as more time than 10 has gone by.
	x.ack(0, spans(to(70, 100)), run(100, 130)...)
	x.rings(11)
	c := x.clone()
	c.tick(1, again(0, 10))
	c.is(sender.State{Mode: api.Recovery, Nxt: 130, End: 200, Cwnd: 40, Thresh: 65, Pipe: 40, Srtt: 10, Rto: 100, Now: 11, Recover: 130, Pending: 1, Cut: true})
	c.lost(to(10, 20), to(20, 30), to(30, 40), to(40, 50), to(50, 60), to(60, 70))

	y := start(t, plain())
	y.write(50, run(0, 50)...)
	y.tick(5)
	y.write(50, run(50, 100)...)
	y.tick(5)
	// Those that were sent at 0 are late at once: one that was sent 5 later has come, in 5.
	y.ack(0, spans(to(90, 100)), again(0, 10))
	y.lost(to(10, 20), to(20, 30), to(30, 40), to(40, 50))
	y.is(sender.State{Mode: api.Recovery, Nxt: 100, End: 100, Cwnd: 50, Thresh: 50, Pipe: 50, Srtt: 5, Rto: 100, Now: 10, Recover: 100, Pending: 1, Cut: true})
}

// P22.4 (1): the sample is of the one that was sent last of those that were sent just once.
func TestTheSample(t *testing.T) {
	x := start(t, plain())
	x.write(10, fresh(0, 10))
	x.tick(5)
	x.write(10, fresh(10, 20))
	x.tick(15)
	x.ack(20, nil)
	x.is(sender.State{Una: 20, Nxt: 20, End: 20, Cwnd: 110, Thresh: 1000, Srtt: 15, Rto: 100, Now: 20})

	// Of one that was sent twice nothing is known.
	x = gap(t, 0)
	x.tick(3, again(0, 10))
	x.tick(9)
	x.ack(20, nil)
	x.is(sender.State{Mode: api.Recovery, Una: 20, Nxt: 100, End: 100, Cwnd: 80, Thresh: 50, Pipe: 80, Srtt: 10, Rto: 100, Now: 22, Recover: 100, Pending: 1, Cut: true})

	// Of one that came once the time is told, whatever went behind it once more.
	x = gap(t, 0)
	x.tick(3, again(0, 10))
	x.tick(9)
	x.ack(30, nil)
	// 22 is 12 more than 10, of which an eighth counts.
	x.is(sender.State{Mode: api.Recovery, Una: 30, Nxt: 100, End: 100, Cwnd: 70, Thresh: 50, Pipe: 70, Srtt: 11, Rto: 100, Now: 22, Recover: 100, Pending: 1, Cut: true})
}

// P22.4 (1): a sample is at most MaxRto.
func TestTheGreatestSample(t *testing.T) {
	c := plain()
	c.MaxRto = api.MaxRto
	x := start(t, c)
	x.write(20, run(0, 20)...)
	x.tick(api.MaxRto+5, again(0, 10))
	x.ack(20, nil)
	x.is(sender.State{Una: 20, Nxt: 20, End: 20, Cwnd: 20, Thresh: 20, Srtt: api.MaxRto, Rto: api.MaxRto, Now: api.MaxRto + 5, Recover: 20, Late: 1, Pending: 1, Cut: true})
}

// P22.4 (2): what went again tells the rack something, if it can't be the answer to what went first.
func TestTheEcho(t *testing.T) {
	counts := []one{again(20, 30), again(30, 40)}
	for _, c := range []struct {
		told  bool
		ecr   uint32
		after int
		want  []one
	}{
		{false, 0, 10, counts},
		{false, 0, 9, nil},
		{true, 13, 10, counts},
		{true, 13, 9, nil},
		{true, 14, 10, counts},
		{true, 12, 10, nil},
		{true, 0, 10, nil},
	} {
		x := start(t, plain())
		x.write(40, run(0, 40)...)
		x.tick(10)
		x.ack(0, spans(to(10, 20)))
		x.tick(3, again(0, 10))
		x.tick(c.after)
		if c.told {
			x.echo(20, c.ecr, nil, c.want...)
		} else {
			x.ack(20, nil, c.want...)
		}
	}
}

// P22.4 (2): all that came is told, by its Order.
func TestAllThatCameIsTold(t *testing.T) {
	// The second one came ahead of the first one, though both were told at once: they are told in the order in which they were sent, so that nothing is mixed, and the window is none where it is sharp.
	x := start(t, plain())
	x.write(100, run(0, 100)...)
	x.tick(10)
	x.ack(0, spans(to(10, 20), to(30, 40), to(20, 30)))
	x.rings(11)
	// One that comes behind what was sent later is mixed for good, so that there is a window from then on.
	x = start(t, plain())
	x.write(100, run(0, 100)...)
	x.tick(10)
	x.ack(0, spans(to(20, 30)))
	x.ack(0, spans(to(10, 20)))
	x.ack(0, spans(to(30, 40)))
	x.rings(13)
}

// P22.4 (3, 4): a segment goes again, and comes once more: what was cut is given back.
func TestUndone(t *testing.T) {
	x := gap(t, 0)
	x.tick(3, again(0, 10))
	x.tick(1)
	x.ack(20, nil)
	x.is(sender.State{Mode: api.Recovery, Una: 20, Nxt: 100, End: 100, Cwnd: 80, Thresh: 50, Pipe: 80, Srtt: 10, Rto: 100, Now: 14, Recover: 100, Pending: 1, Cut: true})
	x.rings(114)
	c := x.clone()
	x.ack(20, spans(to(0, 10)))
	x.is(sender.State{Una: 20, Nxt: 100, End: 100, Cwnd: 100, Thresh: 1000, Pipe: 80, Srtt: 10, Rto: 100, Now: 14, Undone: 1, Recover: 100})
	x.rings(34)
	// The rack gives two quarters from then on.
	x.ack(20, spans(to(30, 40)))
	x.rings(20)
	// Part of it is not enough.
	c.ack(20, spans(to(0, 9)))
	c.is(sender.State{Mode: api.Recovery, Una: 20, Nxt: 100, End: 100, Cwnd: 80, Thresh: 50, Pipe: 80, Srtt: 10, Rto: 100, Now: 14, Recover: 100, Pending: 1, Cut: true})
	c.ack(20, spans(to(0, 10)))
	c.is(sender.State{Una: 20, Nxt: 100, End: 100, Cwnd: 100, Thresh: 1000, Pipe: 80, Srtt: 10, Rto: 100, Now: 14, Undone: 1, Recover: 100})
}

// P22.4 (4): what is deemed lost when a cut is taken back is spared, till it is late by the wider window.
func TestUndoneSpares(t *testing.T) {
	x := start(t, plain())
	x.write(50, run(0, 50)...)
	x.tick(2)
	x.write(50, run(50, 100)...)
	x.tick(5)
	x.ack(0, spans(to(90, 100)), again(0, 10))
	x.lost(to(10, 20), to(20, 30), to(30, 40), to(40, 50))
	x.ack(10, spans(to(0, 10)))
	x.lost()
	x.is(sender.State{Una: 10, Nxt: 100, End: 100, Cwnd: 100, Thresh: 1000, Pipe: 80, Srtt: 5, Rto: 100, Now: 7, Undone: 1, Recover: 100})
	x.rings(8)
	x.tick(1, again(10, 20))
	x.lost(to(20, 30), to(30, 40), to(40, 50))
	x.is(sender.State{Mode: api.Recovery, Una: 10, Nxt: 100, End: 100, Cwnd: 50, Thresh: 45, Pipe: 50, Srtt: 5, Rto: 100, Now: 8, Undone: 1, Recover: 100, Pending: 1, Cut: true})
}

// P22.4 (8): the window grows by what was delivered, if more is acknowledged.
func TestTheWindowGrows(t *testing.T) {
	x := start(t, plain())
	x.write(100, run(0, 100)...)
	cwnd := func(want int) {
		t.Helper()
		if got := x.s.State().Cwnd; got != want {
			t.Fatalf("Cwnd %d, not %d", got, want)
		}
	}
	x.ack(3, nil)
	cwnd(103)
	x.ack(5, nil)
	cwnd(105)
	x.ack(5, nil)
	x.ack(2, nil)
	cwnd(105)
	// What is sacked alone lets nothing grow, and is counted but once.
	x.ack(5, spans(to(8, 10)))
	cwnd(105)
	x.ack(11, nil)
	cwnd(109)
	x.ack(11, spans(to(14, 20)))
	x.ack(12, spans(to(21, 23)))
	cwnd(112)
	// By a segment at most, as it is below the threshold.
	x.ack(60, nil)
	cwnd(122)
}

// P22.4 (8): what comes while a loss is mended lets the window not grow, not even at its end; what comes while the timer's is mended does.
func TestTheWindowGrowsNotInRecovery(t *testing.T) {
	x := gap(t, 0)
	x.tick(3, again(0, 10))
	x.ack(50, nil)
	x.ack(100, nil)
	x.is(sender.State{Una: 100, Nxt: 100, End: 100, Cwnd: 50, Thresh: 50, Srtt: 10, Rto: 100, Now: 13, Recover: 100, Pending: 1, Cut: true})
	x.silent()
	x.write(10, fresh(100, 110))
	x.ack(110, nil)
	if got := x.s.State().Cwnd; got != 50 {
		t.Fatal(got)
	}
	// It grows by one segment for each window that comes, as the threshold is reached.
	x.write(40, run(110, 150)...)
	x.ack(149, nil)
	if got := x.s.State().Cwnd; got != 50 {
		t.Fatal(got)
	}
	x.ack(150, nil)
	if got := x.s.State().Cwnd; got != 60 {
		t.Fatal(got)
	}
}

// P22.4 (7): a recovery that ends sets the window to the threshold, and calms the rack.
func TestCalm(t *testing.T) {
	c := plain()
	c.Start = 25
	x := start(t, c)
	una := 0
	// round is a flight whose first segment is lost, as so many quarters of 8 have gone by.
	round := func(quarters int) {
		t.Helper()
		x.write(20, run(una, una+20)...)
		x.tick(8)
		x.ack(una, spans(to(una+10, una+20)))
		x.rings(x.s.State().Now + 2*quarters + 1)
		x.tick(2*quarters+1, again(una, una+10))
		una += 20
		x.ack(una, nil)
		if s := x.s.State(); s.Mode != api.Open || s.Cwnd != 20 || s.Thresh != 20 {
			t.Fatalf("%+v", s)
		}
	}
	round(1)
	x.ack(una, spans(to(una-20, una-10)))
	for range 16 {
		round(2)
	}
	round(1)
}
