package sender_test

import (
	"slices"

	"undertow/alarm"
	"undertow/api"
	"undertow/board"
	"undertow/book"
	"undertow/buffer"
	"undertow/dup"
	"undertow/frto"
	"undertow/ledger"
	"undertow/low"
	"undertow/probe"
	"undertow/prr"
	"undertow/rack"
	"undertow/rtt"
	"undertow/segment"
	"undertow/sender"
	"undertow/window"
)

// model is what the chapter says, word for word: it asks for all anew whenever the words name it.
type model struct {
	c                    api.Config
	board                *board.Board
	book                 *book.Book
	buffer               *buffer.Buffer
	clock                *alarm.Clock
	est                  *rtt.Est
	least                *low.Low
	rack                 *rack.Rack
	probe                probe.Probe
	win                  *window.Win
	episode              *prr.Prr
	ledger               *ledger.Ledger
	frto                 frto.Frto
	mode, recover        int
	bad, undone, late    int
	out                  []api.Send
	advanced, fresh      bool
	forced, mended, both int // how often it was undone by Force, a probe mended a loss, several alarms rang at once
}

func newModel(c api.Config) *model {
	m := &model{c: c}
	m.board, _ = board.New(0)
	m.book, _ = book.New(0)
	m.buffer, _ = buffer.New(0, c.Buffer)
	m.clock, _ = alarm.New(3)
	m.est, _ = rtt.New(c.MinRto, c.MaxRto)
	m.least, _ = low.New(10000000)
	m.rack, _ = rack.New(c.Floor)
	m.win, _ = window.New(c.Mss, c.Start, c.Most)
	m.ledger = ledger.New()
	return m
}

func (m *model) clone() *model {
	c := *m
	c.board, c.book, c.buffer = m.board.Clone(), m.book.Clone(), m.buffer.Clone()
	c.clock, c.est, c.least, c.rack = m.clock.Clone(), m.est.Clone(), m.least.Clone(), m.rack.Clone()
	c.win, c.episode, c.ledger = m.win.Clone(), m.episode.Clone(), m.ledger.Clone()
	return &c
}

func (m *model) flight() int { return m.board.Nxt() - m.board.Una() }
func (m *model) pipe() int   { return m.book.Pipe(m.board) }
func (m *model) now() int    { return m.clock.Now() }

func (m *model) goes(kind int, s api.Span) {
	body, e := m.buffer.Read(s)
	if e != api.OK {
		panic("bytes that are not there")
	}
	m.out = append(m.out, api.Send{Kind: kind, Span: s, Raw: rawOf(m.c.First, s.From, m.now(), body)})
}

func (m *model) nextNew() api.Span {
	return api.Span{From: m.board.Nxt(), To: m.board.Nxt() + min(m.c.Mss, m.buffer.End()-m.board.Nxt())}
}

func (m *model) goesNew(kind int) {
	s := m.nextNew()
	m.goes(kind, s)
	if m.book.Send(s, m.now()) != api.OK || m.board.Sent(s.To) != api.OK {
		panic("a new one that may not go")
	}
	m.fresh = true
}

func (m *model) goesAgain(kind int, r book.Rec) {
	m.goes(kind, r.Span)
	if _, e := m.book.Again(r.Span.From, m.now()); e != api.OK {
		panic("one that may not go again")
	}
	m.ledger.Again(r.Span)
}

func (m *model) may(n int) bool {
	if m.mode == api.Recovery {
		return n <= m.episode.Left() && m.pipe()+n <= m.win.Cwnd()+m.c.Mss
	}
	return m.pipe()+n <= m.win.Cwnd()
}

func (m *model) tellEpisode(n int) {
	if m.mode == api.Recovery {
		if m.episode.Sent(n) != api.OK {
			panic("more than the episode lets go")
		}
	}
}

func (m *model) sending() {
	for {
		if m.mode != api.Open && !m.frto.Holds() {
			if r, ok := m.book.NextLost(); ok {
				n := r.Span.To - r.Span.From
				if !m.may(n) {
					return
				}
				m.goesAgain(api.SendAgain, r)
				m.tellEpisode(n)
				continue
			}
		}
		n := m.nextNew().To - m.nextNew().From
		if n == 0 || !m.may(n) {
			return
		}
		if m.frto.Holds() && !m.frto.Sent() {
			return
		}
		m.goesNew(api.SendNew)
		m.tellEpisode(n)
	}
}

func (m *model) set(name, at int) {
	if at > api.MaxOff {
		m.clock.Stop(name)
	} else if m.clock.Set(name, at) != api.OK {
		panic("an alarm behind the clock")
	}
}

func (m *model) losing() {
	least, has := m.least.Min(m.now())
	sharp := m.mode != api.Open || m.board.Bytes() >= 3*m.c.Mss
	w := m.rack.Window(least, has, m.est.Srtt(), sharp)
	late, at, ok := m.rack.Late(m.book, m.now(), w)
	for _, s := range late {
		m.book.Lose(s.From)
	}
	if ok {
		m.set(api.AlarmReo, at)
	} else {
		m.clock.Stop(api.AlarmReo)
	}
}

func (m *model) cutByFlight() {
	m.ledger.Cut(m.win.Cwnd(), m.win.Thresh())
	m.win.Cut(m.flight())
}

func (m *model) recovery(byAck bool, delivered int) {
	m.cutByFlight()
	m.episode, _ = prr.New(m.c.Mss, m.flight(), m.win.Thresh())
	m.recover = m.board.Nxt()
	m.mode = api.Recovery
	m.probe.Stop()
	m.frto.Stop()
	if byAck {
		m.episode.Ack(delivered, m.pipe())
	}
	m.episode.First()
	m.win.Set(m.pipe() + m.episode.Left())
}

func (m *model) undo(cwnd, thresh int) {
	m.win.Lift(cwnd, thresh)
	m.mode = api.Open
	m.frto.Stop()
	m.book.Spare()
	m.undone++
}

func (m *model) begin() {
	m.out, m.advanced, m.fresh = nil, false, false
}

func (m *model) quiet() bool {
	return m.mode == api.Open && m.book.Len() > 0 && m.board.Bytes() == 0 && !m.probe.On()
}

func (m *model) end() {
	if m.book.Len() == 0 {
		m.clock.Stop(api.AlarmRto)
		m.clock.Stop(api.AlarmReo)
	} else if _, ok := m.clock.At(api.AlarmRto); !ok {
		m.set(api.AlarmRto, m.now()+m.est.Rto())
	}
	if !m.quiet() {
		m.clock.Stop(api.AlarmProbe)
		return
	}
	_, isSet := m.clock.At(api.AlarmProbe)
	if !isSet || m.advanced || m.fresh {
		at := m.now() + probe.Wait(m.est.Srtt(), m.est.Has(), m.book.Len() == 1, m.c.Floor)
		if rto, ok := m.clock.At(api.AlarmRto); ok && rto < at {
			at = rto
		}
		m.set(api.AlarmProbe, at)
	}
}

func (m *model) write(p []byte) ([]api.Send, api.Errno) {
	m.begin()
	if e := m.buffer.Write(p); e != api.OK {
		return nil, e
	}
	m.sending()
	m.end()
	return m.out, api.OK
}

func (m *model) look(raw []byte) (api.Segment, dup.Told, api.Errno) {
	s, e := segment.Decode(raw)
	if e != api.OK {
		return s, dup.Told{}, e
	}
	if s.Kind != api.SegAck {
		return s, dup.Told{}, api.ErrKind
	}
	var l []api.Block
	for _, b := range s.Opt.Blocks {
		l = append(l, api.Block{Left: b.Left - m.c.First, Right: b.Right - m.c.First})
	}
	told, e := dup.Look(m.board.Una(), m.board.Nxt(), s.Num-m.c.First, l)
	return s, told, e
}

func (m *model) ack(raw []byte) ([]api.Send, api.Errno) {
	m.begin()
	s, told, e := m.look(raw)
	if e != api.OK {
		m.bad++
		return nil, e
	}
	m.bad += told.Bad
	was := m.mode
	delivered := 0
	for _, sp := range told.Sacks {
		n, _ := m.board.Sack(sp)
		delivered += n
	}
	if told.Ack > m.board.Una() {
		n, _ := m.board.Ack(told.Ack)
		delivered += n
		m.buffer.Free(told.Ack)
		m.advanced = true
	}
	came := m.book.Deliver(m.board)
	fresh := m.step1(came)
	m.steps2and3(s, told, came)
	// 4
	if cwnd, thresh, ok := m.ledger.Undo(); ok {
		m.undo(cwnd, thresh)
	}
	m.step5(fresh)
	// 6
	bare := !m.advanced && delivered == 0 && len(s.Opt.Blocks) == 0
	if m.probe.Told(told.Ack, told.IsDup, told.Dup, bare) == probe.Lost && m.mode == api.Open {
		m.cutByFlight()
		m.win.Set(m.win.Thresh())
		m.mended++
	}
	// 7
	if m.mode != api.Open && m.board.Una() >= m.recover {
		if m.mode == api.Recovery {
			m.win.Set(m.win.Thresh())
			m.rack.Calm()
		}
		m.mode = api.Open
		m.frto.Stop()
	}
	// 8
	if m.advanced && was != api.Recovery {
		m.win.Grow(delivered)
	}
	// 9
	m.losing()
	if _, lost := m.book.NextLost(); m.mode == api.Open && lost {
		m.recovery(true, delivered)
	} else if m.mode == api.Recovery {
		m.episode.Ack(delivered, m.pipe())
		m.win.Set(m.pipe() + m.episode.Left())
	}
	// 10
	if m.advanced {
		m.set(api.AlarmRto, m.now()+m.est.Rto())
	}
	m.sending()
	m.end()
	return m.out, api.OK
}

func (m *model) step1(came []book.Rec) bool {
	best := book.Rec{}
	for _, r := range came {
		if r.Times == 1 && r.Order > best.Order {
			best = r
		}
	}
	if best.Order == 0 {
		return false
	}
	took := min(m.now()-best.Sent, api.MaxRto)
	m.est.Sample(took)
	m.least.Add(m.now(), took)
	return true
}

func (m *model) steps2and3(s api.Segment, told dup.Told, came []book.Rec) {
	least, has := m.least.Min(m.now())
	echo := rack.Echo{}
	if s.Opt.Ts {
		echo = rack.Echo{Told: true, Val: s.Opt.Ecr}
	}
	for _, r := range came {
		m.rack.Came(r, m.now(), least, has, echo)
	}
	if told.IsDup {
		m.ledger.Dup(told.Dup)
		m.rack.Dup(m.board.Una(), m.board.Nxt())
	}
}

func (m *model) step5(fresh bool) {
	switch m.frto.Told(m.advanced, m.board.Una() >= m.recover, fresh) {
	case frto.Spurious:
		if cwnd, thresh, ok := m.ledger.Force(); ok {
			m.undo(cwnd, thresh)
			m.forced++
		}
	case frto.Wait:
		if m.buffer.End() == m.board.Nxt() {
			m.frto.Stop()
		}
	}
}

func (m *model) tick(dt int) ([]api.Send, api.Errno) {
	m.begin()
	rang, e := m.clock.Advance(dt)
	if e != api.OK {
		return nil, e
	}
	if len(rang) > 1 {
		m.both++
	}
	for _, name := range rang {
		switch name {
		case api.AlarmRto:
			m.ringRto()
		case api.AlarmReo:
			m.losing()
			if _, lost := m.book.NextLost(); m.mode == api.Open && lost {
				m.recovery(false, 0)
			}
		case api.AlarmProbe:
			m.ringProbe()
		}
	}
	m.sending()
	m.end()
	return m.out, api.OK
}

func (m *model) ringRto() {
	if m.book.Len() == 0 {
		return
	}
	m.late++
	if m.mode == api.Open {
		m.frto.Start()
	} else {
		m.frto.Stop()
	}
	if m.mode != api.Loss {
		m.cutByFlight()
	}
	m.mode = api.Loss
	m.recover = m.board.Nxt()
	m.win.Collapse()
	m.book.LoseAll()
	m.probe.Stop()
	m.est.Backoff()
	r, _ := m.book.First()
	m.goesAgain(api.SendAgain, r)
	m.set(api.AlarmRto, m.now()+m.est.Rto())
}

func (m *model) ringProbe() {
	if !m.quiet() {
		return
	}
	if m.buffer.End() > m.board.Nxt() {
		m.goesNew(api.SendProbe)
		m.probe.Start(m.board.Nxt(), false)
		return
	}
	r, _ := m.book.Last()
	m.goesAgain(api.SendProbe, r)
	m.probe.Start(m.board.Nxt(), true)
}

func (m *model) state() sender.State {
	return sender.State{
		Mode: m.mode, Una: m.board.Una(), Nxt: m.board.Nxt(), End: m.buffer.End(),
		Cwnd: m.win.Cwnd(), Thresh: m.win.Thresh(), Pipe: m.pipe(),
		Srtt: m.est.Srtt(), Rto: m.est.Rto(), Now: m.now(),
		Bad: m.bad, Undone: m.undone, Recover: m.recover,
		Late: m.late, Pending: m.ledger.Pending(), Cut: m.ledger.Open(),
	}
}

func (m *model) lost() []api.Span {
	var l []api.Span
	for r := range m.book.All() {
		if r.Lost {
			l = append(l, r.Span)
		}
	}
	return l
}

func (m *model) sacked() []api.Span {
	return slices.Collect(m.board.All())
}

func (m *model) deadline() (int, bool) {
	best, some := 0, false
	for name := range 3 {
		if at, ok := m.clock.At(name); ok && (!some || at < best) {
			best, some = at, true
		}
	}
	return best, some
}
