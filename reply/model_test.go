package reply_test

import (
	"math/rand"
	"slices"
	"testing"

	"undertow/api"
	"undertow/dup"
	"undertow/reply"
	"undertow/segment"
)

// model is what the chapter says, in words as near as may be: all segments that arrived, the first one first.
type model struct {
	first   uint32
	room    int
	arrived []api.Span
}

func (m *model) has(off int) bool {
	return slices.ContainsFunc(m.arrived, func(s api.Span) bool { return s.From <= off && off < s.To })
}

func (m *model) next() int {
	off := 0
	for m.has(off) {
		off++
	}
	return off
}

// above is the spans above, that of the segment that arrived last first, then that of the one that arrived last of all others, and so on.
func (m *model) above() []api.Span {
	var l []api.Span
	for _, s := range slices.Backward(m.arrived) {
		if s.From < m.next() {
			continue
		}
		for m.has(s.From - 1) {
			s.From--
		}
		for m.has(s.To) {
			s.To++
		}
		if !slices.Contains(l, s) {
			l = append(l, s)
		}
	}
	return l
}

// once is the first offsets of a span that are had, side by side, as a list of one, or of none.
func (m *model) once(s api.Span) []api.Span {
	for off := s.From; off < s.To; off++ {
		if m.has(off) {
			end := off
			for end < s.To && m.has(end) {
				end++
			}
			return []api.Span{to(off, end)}
		}
	}
	return nil
}

// take is the answer to a segment of a span, and what came once more.
func (m *model) take(s api.Span, opt api.Options) (api.Segment, []api.Span) {
	again := m.once(s)
	m.arrived = append(m.arrived, s)
	blocks := slices.Concat(again, m.above())
	if !opt.Ts {
		return ack(m.first, m.next(), api.Options{}, blocks[:min(len(blocks), 4)]...), again
	}
	return ack(m.first, m.next(), stamp(0, opt.Val), blocks[:min(len(blocks), 3)]...), again
}

// look is what an answer tells a sender of the same first number.
func look(t *testing.T, m *model, b []byte) dup.Told {
	t.Helper()
	s, e := segment.Decode(b)
	if e != api.OK || s.Kind != api.SegAck {
		t.Fatal(s, e)
	}
	for i := range s.Opt.Blocks {
		s.Opt.Blocks[i].Left -= m.first
		s.Opt.Blocks[i].Right -= m.first
	}
	told, e := dup.Look(m.next(), m.next()+api.MaxBuffer, s.Num-m.first, s.Opt.Blocks)
	if e != api.OK {
		t.Fatal(s, e)
	}
	return told
}

// mustSay fails if an answer to a segment does not say that all its bytes came, or which came once more, or if it says more than came.
func mustSay(t *testing.T, m *model, s api.Span, again []api.Span, b []byte) {
	t.Helper()
	told := look(t, m, b)
	// P24.3
	within := func(l api.Span) bool { return l.From <= s.From && s.To <= l.To }
	if s.To > told.Ack && !slices.ContainsFunc(told.Sacks, within) {
		t.Fatalf("of %v is told %+v", s, told)
	}
	if told.IsDup != (len(again) > 0) || told.IsDup && told.Dup != again[0] || told.Bad > 0 {
		t.Fatalf("%v came once more: %+v", again, told)
	}
	// P24.4
	for _, l := range append(told.Sacks, to(0, told.Ack), told.Dup) {
		for off := l.From; off < l.To; off++ {
			if !m.has(off) {
				t.Fatalf("%d did not come: %+v", off, told)
			}
		}
	}
}

// pair is a receiver, and the model that it must be like.
type pair struct {
	r *reply.Reply
	m model
}

// arrive has a segment arrive at both, if it may, and fails if they are not alike.
func (p *pair) arrive(t *testing.T, s api.Span, opt api.Options) {
	t.Helper()
	b := data(t, p.m.first, s, opt)
	if s.To > p.m.next()+p.m.room {
		mustRefuse(t, p.r, b, api.ErrAhead)
	} else {
		want, again := p.m.take(s, opt)
		mustSay(t, &p.m, s, again, raw(t, want))
		other := p.r.Clone()
		mustAnswer(t, p.r, b, want)
		got, _ := other.Take(b)
		mustSay(t, &p.m, s, again, got)
	}
	mustHear(t, p.r, p.m.next(), p.m.above()...)
}

// P24.1 to P24.4: some that go their own ways, beside the model.
func TestAnyWay(t *testing.T) {
	rnd := rand.New(rand.NewSource(24))
	for _, first := range firsts() {
		for _, room := range []int{1, 3, 10, 25, 60} {
			pairs := []*pair{{of(t, first, room), model{first: first, room: room}}}
			for range 150 {
				p := pairs[rnd.Intn(len(pairs))]
				if rnd.Intn(40) == 0 {
					c := &pair{p.r.Clone(), p.m}
					c.m.arrived = slices.Clone(p.m.arrived)
					pairs = append(pairs[:min(len(pairs), 2)], c)
				}
				from := max(p.m.next()+rnd.Intn(room+6)-5, 0)
				if rnd.Intn(10) == 0 {
					from = rnd.Intn(p.m.next() + 1)
				}
				opt := api.Options{}
				if rnd.Intn(2) == 0 {
					opt = stamp(rnd.Uint32(), rnd.Uint32())
				}
				p.arrive(t, to(from, from+1+rnd.Intn(1+rnd.Intn(8))), opt)
				for _, p := range pairs {
					mustHear(t, p.r, p.m.next(), p.m.above()...)
				}
			}
		}
	}
}

// P24.3, P24.4: with the greatest segments and the greatest room, behind ahead of before.
func TestTheGreatest(t *testing.T) {
	const first = 1<<32 - 30000
	p := &pair{of(t, first, api.MaxBuffer), model{first: first, room: api.MaxBuffer}}
	p.m.arrived = nil
	for _, i := range []int{31, 30, 3, 5, 7, 9, 4, 31, 0, 9, 2, 1, 3} {
		p.arrive(t, to(i*api.MaxMss, (i+1)*api.MaxMss), stamp(uint32(i), 0))
	}
	p.arrive(t, to(api.MaxBuffer-1, api.MaxBuffer+1), api.Options{})
}
