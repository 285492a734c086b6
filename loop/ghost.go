package loop

import (
	"maps"
	"slices"

	"undertow/api"
)

// none is the Id of what found no room in a duct, and the Trans of a mark of what was never sent ahead of the call.
const none = -1

// Trans is a transmission.
type Trans struct {
	Kind   int
	Span   api.Span
	At, Id int
}

// Mark is a span that was deemed lost.
type Mark struct {
	Span      api.Span
	At, Trans int
	Timer     bool
}

// Answer is an answer that was put under way.
type Answer struct {
	At, Id int
	IsDup  bool
}

// ghost is what was noted.
type ghost struct {
	trans   []Trans
	marks   []Mark
	answers []Answer
	last    map[int]int // the number of the last transmission with this To: a segment that is acknowledged in part keeps its To alone
}

// newGhost is one that noted nothing.
func newGhost() ghost {
	return ghost{last: map[int]int{}}
}

// clone is the same, going its own way.
func (g *ghost) clone() ghost {
	return ghost{
		trans:   slices.Clone(g.trans),
		marks:   slices.Clone(g.marks),
		answers: slices.Clone(g.answers),
		last:    maps.Clone(g.last),
	}
}

// sent notes a transmission.
func (g *ghost) sent(t Trans) {
	g.last[t.Span.To] = len(g.trans)
	g.trans = append(g.trans, t)
}

// deem notes that a span was deemed lost.
func (g *ghost) deem(s api.Span, now int, timer bool) {
	n, ok := g.last[s.To]
	if !ok {
		n = none
	}
	g.marks = append(g.marks, Mark{Span: s, At: now, Trans: n, Timer: timer})
}
