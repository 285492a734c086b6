package sender

import (
	"slices"

	"undertow/api"
	"undertow/book"
	"undertow/dup"
	"undertow/frto"
	"undertow/probe"
	"undertow/prr"
	"undertow/rack"
	"undertow/segment"
)

// answer is what an acknowledgement says, and what is new of it.
type answer struct {
	dup.Told
	echo      rack.Echo
	blocks    bool       // it has some
	mode      int        // the sender's when it came
	delivered int        // how many bytes have come of which that was not known
	came      []book.Rec // the records that have come, by their order
}

// read is what an acknowledgement says; it changes nothing.
func (s *Sender) read(raw []byte) (answer, api.Errno) {
	seg, e := segment.Decode(raw)
	if e != api.OK {
		return answer{}, e
	}
	if seg.Kind != api.SegAck {
		return answer{}, api.ErrKind
	}
	first := s.config.First
	var l []api.Block
	for _, b := range seg.Opt.Blocks {
		l = append(l, api.Block{Left: b.Left - first, Right: b.Right - first})
	}
	told, e := dup.Look(s.board.Una(), s.board.Nxt(), seg.Num-first, l)
	if e != api.OK {
		return answer{}, e
	}
	return answer{Told: told, echo: rack.Echo{Told: seg.Opt.Ts, Val: seg.Opt.Ecr}, blocks: len(l) > 0}, api.OK
}

// note notes what has come.
func (c *call) note(a *answer) {
	a.mode = c.mode
	c.bad += a.Bad
	for _, s := range a.Sacks {
		n, _ := c.board.Sack(s)
		a.delivered += n
	}
	if a.Ack > c.board.Una() {
		n, _ := c.board.Ack(a.Ack)
		a.delivered += n
		c.buffer.Free(a.Ack)
		c.advanced = true
	}
	a.came = c.book.Deliver(c.board)
}

// heed does what comes of an answer, in the order that the document names.
func (c *call) heed(a answer) {
	last, fresh := once(a.came)
	if fresh {
		c.measure(last.Sent)
	}
	c.tellRack(a)
	c.undo(c.ledger.Undo())
	c.askFrto(fresh)
	c.askProbe(a)
	c.settle()
	if c.advanced && a.mode != api.Recovery {
		c.win.Grow(a.delivered)
	}
	c.losing()
	if c.mode == api.Open && c.anyLost() {
		c.recovery(a.delivered)
	} else if c.mode == api.Recovery {
		pipe := c.pipe()
		c.episode.Ack(a.delivered, pipe)
		c.follow(pipe)
	}
	if c.advanced {
		c.restart()
	}
}

// once is the one that went last of those that were sent just once: of the others nobody can say which transmission was answered.
func once(came []book.Rec) (book.Rec, bool) {
	for _, r := range slices.Backward(came) {
		if r.Times == 1 {
			return r, true
		}
	}
	return book.Rec{}, false
}

// tellRack tells the rack what has come, and the ledger what came once more.
func (s *Sender) tellRack(a answer) {
	now := s.clock.Now()
	least, has := s.least.Min(now)
	for _, r := range a.came {
		s.rack.Came(r, now, least, has, a.echo)
	}
	if a.IsDup {
		s.ledger.Dup(a.Dup)
		s.rack.Dup(s.board.Una(), s.board.Nxt())
	}
}

// undo takes a cut back, if a ledger says so.
func (s *Sender) undo(cwnd, thresh int, ok bool) {
	if !ok {
		return
	}
	s.win.Lift(cwnd, thresh)
	s.mode = api.Open
	s.frto.Stop()
	s.book.Spare()
	s.undone++
}

// askFrto asks whether the timer rang too early.
func (c *call) askFrto(fresh bool) {
	switch c.frto.Told(c.advanced, c.board.Una() >= c.goal, fresh) {
	case frto.Spurious:
		c.undo(c.ledger.Force())
	case frto.Wait:
		// Without anything new to send no answer would say more.
		if c.allSent() {
			c.frto.Stop()
		}
	}
}

// askProbe asks whether a probe mended a loss, of which nothing else would tell.
func (c *call) askProbe(a answer) {
	bare := !c.advanced && a.delivered == 0 && !a.blocks
	says := c.probe.Told(a.Ack, a.IsDup, a.Dup, bare)
	if says == probe.Lost && c.mode == api.Open {
		c.cut(c.size())
		c.win.Set(c.win.Thresh())
	}
}

// settle ends what is not Open, if all has come that it began with.
func (s *Sender) settle() {
	if s.mode == api.Open || s.board.Una() < s.goal {
		return
	}
	if s.mode == api.Recovery {
		s.win.Set(s.win.Thresh())
		s.rack.Calm()
	}
	s.mode = api.Open
	s.frto.Stop()
}

// losing deems lost what is late.
func (s *Sender) losing() {
	now := s.clock.Now()
	least, has := s.least.Min(now)
	sharp := s.mode != api.Open || s.board.Bytes() >= 3*s.config.Mss
	late, next, more := s.rack.Late(s.book, now, s.rack.Window(least, has, s.est.Srtt(), sharp))
	for _, one := range late {
		s.book.Lose(one.From)
	}
	if more {
		s.wake(api.AlarmReo, next)
	} else {
		s.clock.Stop(api.AlarmReo)
	}
}

// recovery begins one, by what delivered so many bytes.
func (s *Sender) recovery(delivered int) {
	s.cut(s.size())
	s.episode, _ = prr.New(s.config.Mss, s.size(), s.win.Thresh())
	s.goal, s.mode = s.board.Nxt(), api.Recovery
	s.probe.Stop()
	s.frto.Stop()
	pipe := s.pipe()
	s.episode.Ack(delivered, pipe)
	s.episode.First()
	s.follow(pipe)
}
