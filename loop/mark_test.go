package loop_test

import (
	"testing"

	"undertow/api"
	"undertow/loop"
)

// lost is a mark by time.
func lost(from, end, at, trans int) loop.Mark { return loop.Mark{to(from, end), at, trans, false} }

// rang is a mark by the timer.
func rang(from, end, at, trans int) loop.Mark { return loop.Mark{to(from, end), at, trans, true} }

// P26.2: the timer deems all lost: what goes again by it, and the others; a probe that went by the same call is none of those that went ahead of it.
func TestMarksOfTheTimer(t *testing.T) {
	x := start(t, small())
	x.write(30)
	x.do(loop.Data, 0)
	x.do(loop.Back, 0)
	x.went(fresh(0, 10, 0, 0), fresh(10, 20, 0, 1), fresh(20, 30, 0, 2))
	x.do(loop.Tick, 20000)
	x.went(tail(20, 30, 20000, 3), again(10, 20, 20000, 4))
	x.marked(rang(10, 20, 20000, 1), rang(20, 30, 20000, 2))
	// It rings once more: what was lost already is not marked again.
	x.do(loop.Tick, 20000)
	x.went(again(10, 20, 40000, 5))
	x.marked(rang(10, 20, 40000, 4))
	x.do(loop.Tick, 0)
	x.marked()
	x.write(10)
	x.marked()
}

// P26.2: what was never sent ahead of the call has no transmission.
func TestMarksOfWhatWentByTheCall(t *testing.T) {
	x := start(t, small())
	x.write(20)
	x.do(loop.Data, 0)
	x.do(loop.Back, 0)
	x.write(40)
	x.went(fresh(0, 10, 0, 0), fresh(10, 20, 0, 1), fresh(20, 30, 0, 2), fresh(30, 40, 0, 3))
	x.do(loop.Tick, 20000)
	x.went(tail(40, 50, 20000, 4), again(10, 20, 20000, 5))
	x.marked(rang(10, 20, 20000, 1), rang(20, 30, 20000, 2), rang(30, 40, 20000, 3), rang(40, 50, 20000, -1))
}

// P26.2: what was lost by the timer and spared since is marked anew, by time, where no timer rings by the call.
func TestMarksBehindATimer(t *testing.T) {
	x := start(t, plain())
	x.write(140)
	x.trans = 10
	x.do(loop.Tick, 100000)
	x.went(again(0, 10, 100000, 10))
	var all []loop.Mark
	for i := range 10 {
		all = append(all, rang(10*i, 10*i+10, 100000, i))
	}
	x.marked(all...)
	// Two answers go on, so that the timer rang too early: all are spared.
	x.do(loop.Tick, 5)
	x.do(loop.Data, 10)
	x.do(loop.Back, 0)
	x.went(fresh(100, 110, 100005, 11), fresh(110, 120, 100005, 12))
	x.do(loop.Data, 1)
	x.do(loop.Back, 0)
	x.went(fresh(120, 130, 100005, 13))
	if s := x.l.State(); s.Late != 1 || s.Undone != 1 || s.Una != 20 {
		t.Fatalf("%+v", s)
	}
	x.marked()
	// One that was sent much later comes.
	x.do(loop.Tick, 5)
	x.do(loop.Data, 9)
	x.do(loop.Back, 0)
	all = nil
	for i := range 8 {
		all = append(all, lost(10*i+20, 10*i+30, 100010, i+2))
	}
	x.marked(all...)
}

// P26.2: by time: at a tick, one that goes again at once.
func TestAMarkByATick(t *testing.T) {
	x := start(t, plain())
	x.write(100)
	x.do(loop.Tick, 10)
	x.do(loop.Data, 1)
	x.do(loop.Back, 0)
	x.marked()
	x.do(loop.Tick, 2)
	x.marked()
	x.trans = 10
	x.do(loop.Tick, 1)
	x.went(again(0, 10, 13, 10))
	x.marked(lost(0, 10, 13, 0))
	// It is lost once more: the mark has the later transmission.
	x.do(loop.DropData, 0) // 0 to 10
	x.do(loop.DropData, 8) // and again
	x.do(loop.Tick, 1)
	for range 5 {
		x.do(loop.Data, 0) // 20 to 70
		x.do(loop.Back, 0)
	}
	x.write(10)
	x.went(fresh(100, 110, 14, 11))
	x.do(loop.Tick, 20)
	x.do(loop.Data, 0) // 70 to 80
	x.do(loop.Back, 0)
	x.do(loop.Tick, 10)
	x.marked()
	x.do(loop.Data, 2) // 100 to 110, which went later
	x.do(loop.Back, 0)
	x.marked(lost(0, 10, 44, 10), lost(80, 90, 44, 8), lost(90, 100, 44, 9))
}

// P26.2: by an answer: the one that goes again, and those that are lost behind it; when they go later, they are not marked again.
func TestMarksByAnAnswer(t *testing.T) {
	x := start(t, plain())
	x.write(50)
	x.do(loop.Tick, 5)
	x.write(50)
	x.do(loop.Tick, 5)
	x.trans = 10
	x.do(loop.Data, 9)
	x.do(loop.Back, 0)
	x.went(again(0, 10, 10, 10))
	x.marked(lost(0, 10, 10, 0), lost(10, 20, 10, 1), lost(20, 30, 10, 2), lost(30, 40, 10, 3), lost(40, 50, 10, 4))
	for range 4 {
		x.do(loop.DropData, 1)
	}
	x.do(loop.Data, 1) // 50 to 60
	x.do(loop.Back, 0)
	x.do(loop.Data, 1) // 60 to 70
	x.do(loop.Back, 0)
	x.do(loop.Data, 1) // 70 to 80
	x.do(loop.Back, 0)
	x.went(again(10, 20, 10, 11), again(20, 30, 10, 12), again(30, 40, 10, 13))
	x.marked()
}

// P26.2: a write deems nothing lost, nor does one that is refused.
func TestNoMarks(t *testing.T) {
	x := start(t, plain())
	x.write(100)
	x.do(loop.Tick, 10)
	x.do(loop.Data, 1)
	x.do(loop.Back, 0)
	x.do(loop.Tick, 2)
	x.write(100)
	x.unchanged(loop.Op{Kind: loop.Tick, N: -1}, api.ErrRange)
	x.unchanged(loop.Op{B: make([]byte, 1000)}, api.ErrFull)
	x.do(loop.CopyData, 0)
	x.do(loop.DropData, 0)
	x.do(loop.Data, 0)
	x.do(loop.CopyBack, 0)
	x.do(loop.DropBack, 0)
	x.marked()
}
