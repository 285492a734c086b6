package loop

import (
	"undertow/api"
	"undertow/duct"
	"undertow/dup"
	"undertow/segment"
)

// operations is what is done, by kinds.
func operations() map[int]func(*Loop, Op) api.Errno {
	return map[int]func(*Loop, Op) api.Errno{
		Write:    (*Loop).write,
		Tick:     (*Loop).tick,
		Data:     (*Loop).dataComes,
		DropData: (*Loop).dropData,
		CopyData: (*Loop).copyData,
		Back:     (*Loop).backComes,
		DropBack: (*Loop).dropBack,
		CopyBack: (*Loop).copyBack,
	}
}

func (l *Loop) write(o Op) api.Errno {
	return l.call(func() ([]api.Send, api.Errno) { return l.sender.Write(o.B) })
}

func (l *Loop) tick(o Op) api.Errno {
	return l.call(func() ([]api.Send, api.Errno) { return l.sender.Tick(o.N) })
}

func (l *Loop) dataComes(o Op) api.Errno {
	now := l.stands.Now
	raw, e := take(l.data, o.N, now)
	if e != api.OK {
		return e
	}
	answer, e := l.reply.Take(raw)
	if e != api.OK {
		return e
	}
	l.ghost.answers = append(l.ghost.answers, Answer{At: now, Id: put(l.back, answer, now), IsDup: l.onceMore(answer)})
	return api.OK
}

func (l *Loop) dropData(o Op) api.Errno { return drop(l.data, o.N, l.stands.Now) }

func (l *Loop) copyData(o Op) api.Errno { return double(l.data, o.N, l.stands.Now) }

func (l *Loop) backComes(o Op) api.Errno {
	raw, e := take(l.back, o.N, l.stands.Now)
	if e != api.OK {
		return e
	}
	return l.call(func() ([]api.Send, api.Errno) { return l.sender.Ack(raw) })
}

func (l *Loop) dropBack(o Op) api.Errno { return drop(l.back, o.N, l.stands.Now) }

func (l *Loop) copyBack(o Op) api.Errno { return double(l.back, o.N, l.stands.Now) }

// call does a call of the sender: what it lets go is put under way, and what it deems lost is marked.
func (l *Loop) call(does func() ([]api.Send, api.Errno)) api.Errno {
	late, known := l.stands.Late, l.lostEnds()
	went, e := does()
	// What is refused may be counted, too.
	l.stands = l.sender.State()
	if e != api.OK {
		return e
	}
	now := l.stands.Now
	// A mark names a transmission of ahead of the call, so that what went by it is noted behind the marks.
	l.mark(went, known, now, l.stands.Late > late)
	for _, one := range went {
		l.ghost.sent(Trans{Kind: one.Kind, Span: one.Span, At: now, Id: put(l.data, one.Raw, now)})
	}
	return api.OK
}

// lostEnds is where the spans end that the sender deems lost.
func (l *Loop) lostEnds() map[int]bool {
	ends := map[int]bool{}
	for _, s := range l.sender.Lost() {
		ends[s.To] = true
	}
	return ends
}

// mark marks what a call of the sender deemed lost, but for what is known to have been lost ahead of it.
func (l *Loop) mark(went []api.Send, known map[int]bool, now int, timer bool) {
	note := func(s api.Span) {
		if !known[s.To] {
			// It is marked just once, even if it goes again and is lost behind that.
			known[s.To] = true
			l.ghost.deem(s, now, timer)
		}
	}
	for _, one := range went {
		if one.Kind == api.SendAgain {
			note(one.Span)
		}
	}
	for _, s := range l.sender.Lost() {
		note(s)
	}
}

// put puts bytes under way, and answers their number, or none.
func put(d *duct.Duct, raw []byte, now int) int {
	id, e := d.Put(raw, now)
	if e != api.OK {
		return none
	}
	return id
}

// take has the n-th copy of a duct come.
func take(d *duct.Duct, n, now int) ([]byte, api.Errno) {
	c, ok := d.Nth(n)
	if !ok {
		return nil, api.ErrNone
	}
	return d.Take(c.Id, now)
}

// drop drops the n-th copy of a duct.
func drop(d *duct.Duct, n, now int) api.Errno {
	c, ok := d.Nth(n)
	if !ok {
		return api.ErrNone
	}
	return d.Drop(c.Id, now)
}

// double doubles the n-th copy of a duct.
func double(d *duct.Duct, n, now int) api.Errno {
	c, ok := d.Nth(n)
	if !ok {
		return api.ErrNone
	}
	_, e := d.Double(c.Id, now)
	return e
}

// onceMore tells whether an answer tells that bytes came once more.
func (l *Loop) onceMore(answer []byte) bool {
	s, _ := segment.Decode(answer)
	var blocks []api.Block
	for _, b := range s.Opt.Blocks {
		blocks = append(blocks, api.Block{Left: b.Left - l.first, Right: b.Right - l.first})
	}
	next := l.reply.Next()
	told, _ := dup.Look(next, next+api.MaxBuffer, s.Num-l.first, blocks)
	return told.IsDup
}
