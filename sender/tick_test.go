package sender_test

import (
	"math"
	"testing"

	"undertow/api"
	"undertow/sender"
)

// P22.5: the clock's error, which changes nothing.
func TestTickRefused(t *testing.T) {
	x := start(t, plain())
	x.write(30, run(0, 30)...)
	x.tick(10)
	state := x.s.State()
	for _, dt := range []int{-1, math.MinInt, math.MaxInt, api.MaxOff, api.MaxOff - 9} {
		if l, e := x.s.Tick(dt); l != nil || e != api.ErrRange {
			t.Errorf("Tick(%d): %v, %d", dt, l, e)
		}
		x.is(state)
		x.rings(100000)
	}
	x.tick(0)
	x.is(state)
}

// late is a side on which the timer rang at 110: of 40 bytes 10 have come, at 10, and the probe of 30 to 40 told nothing.
func late(t *testing.T) side {
	t.Helper()
	x := start(t, plain())
	x.write(40, run(0, 40)...)
	x.tick(10)
	x.ack(10, nil)
	x.rings(30)
	x.tick(20, tail(30, 40))
	x.is(sender.State{Una: 10, Nxt: 40, End: 40, Cwnd: 110, Thresh: 1000, Pipe: 40, Srtt: 10, Rto: 100, Now: 30, Pending: 1})
	// The timer stays as it was.
	x.rings(110)
	x.tick(79)
	x.tick(1, again(10, 20))
	x.is(sender.State{Mode: api.Loss, Una: 10, Nxt: 40, End: 40, Cwnd: 10, Thresh: 20, Pipe: 10, Srtt: 10, Rto: 200, Now: 110, Recover: 40, Late: 1, Pending: 2, Cut: true})
	x.lost(to(20, 30), to(30, 40))
	x.rings(310)
	return x
}

// P22.4 (5), P22.5: the timer rang too early, and nothing was lost.
func TestTheTimerRangTooEarly(t *testing.T) {
	x := late(t)
	x.tick(1)
	// In its first step nothing goes at all.
	x.write(60)
	// Then two new ones alone.
	x.ack(20, nil, fresh(40, 50), fresh(50, 60))
	x.is(sender.State{Mode: api.Loss, Una: 20, Nxt: 60, End: 100, Cwnd: 20, Thresh: 20, Pipe: 20, Srtt: 10, Rto: 200, Now: 111, Recover: 40, Late: 1, Pending: 2, Cut: true})
	x.lost(to(20, 30), to(30, 40))
	x.rings(311)
	x.tick(1)
	c := x.clone()
	x.ack(30, nil, run(60, 100)...)
	// 112 is 102 more than 10, and the window is what it was, and a segment more.
	x.is(sender.State{Una: 30, Nxt: 100, End: 100, Cwnd: 120, Thresh: 1000, Pipe: 70, Srtt: 22, Rto: 138, Now: 112, Undone: 1, Recover: 40, Late: 1, Pending: 2})
	x.lost()
	x.rings(156)
	// An answer that acknowledges no more: something was lost. What is lost goes again, as far as the window has room.
	c.ack(20, spans(to(50, 60)), again(20, 30))
	c.is(sender.State{Mode: api.Loss, Una: 20, Nxt: 60, End: 100, Cwnd: 20, Thresh: 20, Pipe: 20, Srtt: 8, Rto: 100, Now: 112, Recover: 40, Late: 1, Pending: 3, Cut: true})
	c.lost(to(30, 40))
}

// P22.4 (5): in the second step one that was sent again says nothing of the timer.
func TestAnAnswerToWhatWentAgain(t *testing.T) {
	x := late(t)
	x.write(100)
	x.ack(15, nil, fresh(40, 50))
	x.is(sender.State{Mode: api.Loss, Una: 15, Nxt: 50, End: 140, Cwnd: 15, Thresh: 20, Pipe: 15, Srtt: 10, Rto: 200, Now: 110, Recover: 40, Late: 1, Pending: 2, Cut: true})
	x.ack(20, nil, again(20, 30))
	x.is(sender.State{Mode: api.Loss, Una: 20, Nxt: 50, End: 140, Cwnd: 20, Thresh: 20, Pipe: 20, Srtt: 10, Rto: 200, Now: 110, Recover: 40, Late: 1, Pending: 3, Cut: true})
	x.lost(to(30, 40))
}

// P22.4 (5): without anything new to send the frto is stopped: what is lost goes again at once.
func TestNothingNewToSend(t *testing.T) {
	x := late(t)
	x.tick(1)
	x.ack(20, nil, again(20, 30), again(30, 40))
	x.is(sender.State{Mode: api.Loss, Una: 20, Nxt: 40, End: 40, Cwnd: 20, Thresh: 20, Pipe: 20, Srtt: 10, Rto: 200, Now: 111, Recover: 40, Late: 1, Pending: 4, Cut: true})
	// What is written later goes as soon as there is room, and what ends the mode is Recover.
	x.write(30)
	x.ack(30, nil, fresh(40, 50))
	x.is(sender.State{Mode: api.Loss, Una: 30, Nxt: 50, End: 70, Cwnd: 20, Thresh: 20, Pipe: 20, Srtt: 10, Rto: 200, Now: 111, Recover: 40, Late: 1, Pending: 4, Cut: true})
	x.ack(40, nil, fresh(50, 60), fresh(60, 70))
	x.is(sender.State{Una: 40, Nxt: 70, End: 70, Cwnd: 30, Thresh: 20, Pipe: 30, Srtt: 10, Rto: 200, Now: 111, Recover: 40, Late: 1, Pending: 4, Cut: true})
}

// P22.4 (5, 7): one that acknowledges all is no sign that the timer rang too early.
func TestAllIsAcknowledged(t *testing.T) {
	x := late(t)
	x.tick(1)
	x.write(60)
	x.ack(40, nil, fresh(40, 50), fresh(50, 60))
	x.is(sender.State{Una: 40, Nxt: 60, End: 100, Cwnd: 20, Thresh: 20, Pipe: 20, Srtt: 22, Rto: 138, Now: 111, Recover: 40, Late: 1, Pending: 2, Cut: true})
}

// P22.4 (5): an answer in the first step that acknowledges no more.
func TestTheTimerRangInTime(t *testing.T) {
	x := late(t)
	x.tick(1)
	x.write(60)
	x.ack(10, nil)
	x.is(sender.State{Mode: api.Loss, Una: 10, Nxt: 40, End: 100, Cwnd: 10, Thresh: 20, Pipe: 10, Srtt: 10, Rto: 200, Now: 111, Recover: 40, Late: 1, Pending: 2, Cut: true})
	// The frto is off: what is lost goes again ahead of what is new.
	x.ack(20, nil, again(20, 30), again(30, 40))
	x.ack(30, nil, fresh(40, 50))
}

// P22.5: the timer rings again, and again.
func TestTheTimerRingsAgain(t *testing.T) {
	x := late(t)
	x.write(60)
	x.tick(200, again(10, 20))
	// The frto is stopped, and nothing is cut once more; but the time is doubled.
	x.is(sender.State{Mode: api.Loss, Una: 10, Nxt: 40, End: 100, Cwnd: 10, Thresh: 20, Pipe: 10, Srtt: 10, Rto: 400, Now: 310, Recover: 40, Late: 2, Pending: 3, Cut: true})
	x.rings(710)
	c := x.clone()
	c.ack(20, nil, again(20, 30), again(30, 40))
	x.tick(1000, again(10, 20))
	x.is(sender.State{Mode: api.Loss, Una: 10, Nxt: 40, End: 100, Cwnd: 10, Thresh: 20, Pipe: 10, Srtt: 10, Rto: 800, Now: 1310, Recover: 40, Late: 3, Pending: 4, Cut: true})
	x.rings(2110)
	x.ack(40, nil, fresh(40, 50), fresh(50, 60))
	x.is(sender.State{Una: 40, Nxt: 60, End: 100, Cwnd: 20, Thresh: 20, Pipe: 20, Srtt: 172, Rto: 1484, Now: 1310, Recover: 40, Late: 3, Pending: 4, Cut: true})
}

// P22.5: the timer rings while a loss is mended.
func TestTheTimerInRecovery(t *testing.T) {
	x := gap(t, 0)
	x.tick(3, again(0, 10))
	x.write(50)
	x.rings(100000)
	x.tick(100000-13, again(0, 10))
	x.is(sender.State{Mode: api.Loss, Nxt: 100, End: 150, Cwnd: 10, Thresh: 50, Pipe: 10, Srtt: 10, Rto: 200, Now: 100000, Recover: 100, Late: 1, Pending: 2, Cut: true})
	x.lost(to(20, 30), to(30, 40), to(40, 50), to(50, 60), to(60, 70), to(70, 80), to(80, 90), to(90, 100))
	x.rings(100200)
	// The frto is stopped: what is lost goes again at once.
	x.ack(20, nil, again(20, 30), again(30, 40))
}

// P22.5: several that ring at once do so in order.
func TestSeveralRingAtOnce(t *testing.T) {
	x := gap(t, 0)
	x.tick(100000, again(0, 10))
	// First the recovery began, which cut the window; so the frto was not started.
	x.is(sender.State{Mode: api.Loss, Nxt: 100, End: 100, Cwnd: 10, Thresh: 50, Pipe: 10, Srtt: 10, Rto: 200, Now: 100010, Recover: 100, Late: 1, Pending: 1, Cut: true})
	x.rings(100210)
	x.ack(20, nil, again(20, 30), again(30, 40))
}

// P22.5: a probe of what is new, beyond the window, or of what went last.
func TestTheProbe(t *testing.T) {
	c := plain()
	c.Start = 20
	x := start(t, c)
	x.write(80, run(0, 20)...)
	x.tick(10)
	x.ack(10, nil, fresh(20, 30), fresh(30, 40))
	x.rings(30)
	x.tick(20, tail(40, 50))
	x.is(sender.State{Una: 10, Nxt: 50, End: 80, Cwnd: 30, Thresh: 1000, Pipe: 40, Srtt: 10, Rto: 100, Now: 30})
	// While it is on, there is no other one.
	x.rings(110)
	x.ack(20, nil, fresh(50, 60))
	x.rings(130)
	// An answer from its end on ends it, so that there is a next one.
	x.ack(50, nil, run(60, 80)...)
	x.rings(50)
	x.tick(20, tail(70, 80))
	x.is(sender.State{Una: 50, Nxt: 80, End: 80, Cwnd: 50, Thresh: 1000, Pipe: 40, Srtt: 10, Rto: 100, Now: 50, Pending: 1})
}

// P22.5: a probe of what is new has no more than there is.
func TestAShortProbe(t *testing.T) {
	c := plain()
	c.Start = 20
	x := start(t, c)
	x.write(43, run(0, 20)...)
	x.tick(10)
	x.ack(10, nil, fresh(20, 30), fresh(30, 40))
	x.tick(20, tail(40, 43))
	x.is(sender.State{Una: 10, Nxt: 43, End: 43, Cwnd: 30, Thresh: 1000, Pipe: 33, Srtt: 10, Rto: 100, Now: 30})
}
