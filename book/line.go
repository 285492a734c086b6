package book

import "iter"

// node is a record within a line, between the one that was sent ahead of it and the one that was sent behind it.
type node struct {
	Rec
	ahead, behind *node
}

// line is nodes by their Order.
type line struct {
	first, last *node
}

// add puts a node behind all others.
func (l *line) add(n *node) {
	n.ahead = l.last
	if l.last == nil {
		l.first = n
	} else {
		l.last.behind = n
	}
	l.last = n
}

// cut takes a node out.
func (l *line) cut(n *node) {
	if n.ahead == nil {
		l.first = n.behind
	} else {
		n.ahead.behind = n.behind
	}
	if n.behind == nil {
		l.last = n.ahead
	} else {
		n.behind.ahead = n.ahead
	}
	n.ahead, n.behind = nil, nil
}

// nodes goes through the nodes, each of which may be cut out as it is told. What is sent meanwhile is not told, so that this ends even if each one is sent again.
func (l *line) nodes(yield func(*node) bool) {
	if l.last == nil {
		return
	}
	end := l.last.Order
	for n := l.first; n != nil && n.Order <= end; {
		behind := n.behind
		if !yield(n) {
			return
		}
		n = behind
	}
}

// records goes through the records of nodes.
func records(nodes iter.Seq[*node]) iter.Seq[Rec] {
	return func(yield func(Rec) bool) {
		for n := range nodes {
			if !yield(n.Rec) {
				return
			}
		}
	}
}
