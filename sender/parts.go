package sender

import (
	"undertow/alarm"
	"undertow/api"
	"undertow/board"
	"undertow/book"
	"undertow/buffer"
	"undertow/ledger"
	"undertow/low"
	"undertow/prr"
	"undertow/rtt"
	"undertow/span"
	"undertow/window"
)

const (
	alarms = 3          // how many a sender has
	recent = 10_000_000 // within how long the least of times is kept
)

// flight is what was written, what of it was sent, and what of that has come.
type flight struct {
	board  *board.Board
	book   *book.Book
	buffer *buffer.Buffer
}

// newFlight is one of which nothing was written.
func newFlight(c api.Config) flight {
	var f flight
	f.board, _ = board.New(0)
	f.book, _ = book.New(0)
	f.buffer, _ = buffer.New(0, c.Buffer)
	return f
}

// clone is the same, going its own way.
func (f flight) clone() flight {
	return flight{f.board.Clone(), f.book.Clone(), f.buffer.Clone()}
}

// size is how many bytes were sent and not acknowledged.
func (f flight) size() int {
	return f.board.Nxt() - f.board.Una()
}

// pipe is how many bytes are under way.
func (f flight) pipe() int {
	return f.book.Pipe(f.board)
}

// missing is how many of a record's bytes have not come.
func (f flight) missing(r book.Rec) int {
	return span.Len(r.Span) - f.board.Within(r.Span)
}

// unsent is what was written and not sent, of it no more than one segment has.
func (f flight) unsent(mss int) api.Span {
	from := f.board.Nxt()
	return api.Span{From: from, To: min(from+mss, f.buffer.End())}
}

// allSent tells whether nothing was written that was not sent.
func (f flight) allSent() bool {
	return f.buffer.End() <= f.board.Nxt()
}

// anyLost tells whether a record is lost.
func (f flight) anyLost() bool {
	_, ok := f.book.NextLost()
	return ok
}

// lost is the records that are lost, by their offsets.
func (f flight) lost() []book.Rec {
	var l []book.Rec
	for r := range f.book.All() {
		if r.Lost {
			l = append(l, r)
		}
	}
	return l
}

// times is the clock, and what was measured by it.
type times struct {
	clock *alarm.Clock
	est   *rtt.Est
	least *low.Low
}

// newTimes is a clock at 0, and nothing measured.
func newTimes(c api.Config) times {
	var t times
	t.clock, _ = alarm.New(alarms)
	t.est, _ = rtt.New(c.MinRto, c.MaxRto)
	t.least, _ = low.New(recent)
	return t
}

// clone is the same, going its own way.
func (t times) clone() times {
	return times{t.clock.Clone(), t.est.Clone(), t.least.Clone()}
}

// wake sets an alarm; one that would ring behind the last time of all is stopped.
func (t times) wake(name, at int) {
	if t.clock.Set(name, at) != api.OK {
		t.clock.Stop(name)
	}
}

// restart sets the timer, counted from now.
func (t times) restart() {
	t.wake(api.AlarmRto, t.clock.Now()+t.est.Rto())
}

// measure takes how long it is since a segment was sent that has come now.
func (t times) measure(sent int) {
	took := min(t.clock.Now()-sent, api.MaxRto)
	t.est.Sample(took)
	t.least.Add(t.clock.Now(), took)
}

// pace is how much may go, and what it was ahead of a cut.
type pace struct {
	win     *window.Win
	episode *prr.Prr // nil, if there was none
	ledger  *ledger.Ledger
}

// newPace is one that was never cut.
func newPace(c api.Config) pace {
	var p pace
	p.win, _ = window.New(c.Mss, c.Start, c.Most)
	p.ledger = ledger.New()
	return p
}

// clone is the same, going its own way.
func (p pace) clone() pace {
	return pace{p.win.Clone(), p.episode.Clone(), p.ledger.Clone()}
}

// cut cuts the threshold by what was sent and not acknowledged; the ledger keeps what there was ahead of it.
func (p pace) cut(size int) {
	p.ledger.Cut(p.win.Cwnd(), p.win.Thresh())
	p.win.Cut(size)
}

// follow sets the window to what is under way and what the episode lets go beside it.
func (p pace) follow(pipe int) {
	p.win.Set(pipe + p.episode.Left())
}
