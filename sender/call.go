package sender

import (
	"undertow/api"
	"undertow/book"
	"undertow/probe"
	"undertow/segment"
	"undertow/seq"
	"undertow/span"
)

// call is a call of a sender, and what it did.
type call struct {
	*Sender
	went     []api.Send
	fresh    bool // a new segment went
	advanced bool // it was an acknowledgement of more than there was ahead of it
	used     int  // the pipe, while sending
}

// goes tells a segment that goes.
func (c *call) goes(kind int, s api.Span) {
	body, _ := c.buffer.Read(s)
	raw, _ := segment.Encode(api.Segment{
		Kind: api.SegData,
		Num:  c.config.First + seq.Wrap(s.From),
		Opt:  api.Options{Ts: true, Val: seq.Wrap(c.clock.Now())},
		Body: body,
	})
	c.went = append(c.went, api.Send{Kind: kind, Span: s, Raw: raw})
}

// sendNew lets a segment go that was never sent.
func (c *call) sendNew(kind int) {
	s := c.unsent(c.config.Mss)
	c.book.Send(s, c.clock.Now())
	c.board.Sent(s.To)
	c.fresh = true
	c.goes(kind, s)
}

// sendAgain lets a segment go once more.
func (c *call) sendAgain(kind int, r book.Rec) {
	c.book.Again(r.Span.From, c.clock.Now())
	// Where the ledger has no room, it keeps in mind that it had none.
	c.ledger.Again(r.Span)
	c.goes(kind, r.Span)
}

// sending lets go what may go: what is lost, then what was never sent.
func (c *call) sending() {
	// The pipe is asked for once, and counted on by what goes: to ask for it is to go through all records.
	c.used = c.pipe()
	for _, r := range c.mendable() {
		if !c.may(r.Span) {
			return
		}
		c.use(r.Span, c.missing(r))
		c.sendAgain(api.SendAgain, r)
	}
	for c.mayNew() {
		next := c.unsent(c.config.Mss)
		c.use(next, span.Len(next))
		c.sendNew(api.SendNew)
	}
}

// mendable is the records that are lost and go again, if they may. While segments go nothing more is deemed lost, so these are all.
func (c *call) mendable() []book.Rec {
	if c.mode == api.Open || c.frto.Holds() {
		return nil
	}
	return c.lost()
}

// may tells whether so many bytes may go as a span has.
func (c *call) may(s api.Span) bool {
	n := span.Len(s)
	if c.mode == api.Recovery {
		return n <= c.episode.Left() && c.used+n <= c.win.Cwnd()+c.config.Mss
	}
	return c.used+n <= c.win.Cwnd()
}

// mayNew tells whether a new segment may go. While the frto holds, the answer uses up some of its room, so that is asked last.
func (c *call) mayNew() bool {
	next := c.unsent(c.config.Mss)
	return span.Len(next) > 0 && c.may(next) && (!c.frto.Holds() || c.frto.Sent())
}

// use notes that a span goes, of which so many bytes have not come.
func (c *call) use(s api.Span, missing int) {
	c.used += missing
	if c.mode == api.Recovery {
		c.episode.Sent(span.Len(s))
	}
}

// end sets the alarms as they must stand behind a call, and tells what went by it.
func (c *call) end() []api.Send {
	_, set := c.clock.At(api.AlarmRto)
	switch {
	case c.book.Len() == 0:
		c.clock.Stop(api.AlarmRto)
		c.clock.Stop(api.AlarmReo)
	case !set:
		c.restart()
	}
	c.watchTail()
	return c.went
}

// watchTail sets the alarm of the probe, if one may be needed.
func (c *call) watchTail() {
	if !c.mayProbe() {
		c.clock.Stop(api.AlarmProbe)
		return
	}
	if _, set := c.clock.At(api.AlarmProbe); set && !c.advanced && !c.fresh {
		return
	}
	at := c.clock.Now() + probe.Wait(c.est.Srtt(), c.est.Has(), c.book.Len() == 1, c.config.Floor)
	if timer, set := c.clock.At(api.AlarmRto); set {
		at = min(at, timer)
	}
	c.wake(api.AlarmProbe, at)
}

// mayProbe tells whether a probe of the tail may go: something is under way, and nothing says yet that something was lost.
func (s *Sender) mayProbe() bool {
	return s.mode == api.Open && s.book.Len() > 0 && s.board.Bytes() == 0 && !s.probe.On()
}
