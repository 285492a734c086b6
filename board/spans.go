package board

import (
	"iter"

	"undertow/api"
	"undertow/avl"
	"undertow/span"
)

// spans are those that were sacked, none of which touches another one: each stands in the tree by its From.
type spans struct {
	*avl.Tree[api.Span]
}

// newSpans is none.
func newSpans() spans {
	return spans{avl.New[api.Span]()}
}

// clone is the same spans, going their own way.
func (l spans) clone() spans {
	return spans{l.Clone()}
}

// rise goes through the spans, from the one that has the offset from, or that is the last one below it.
func (l spans) rise(from int) iter.Seq[api.Span] {
	return func(yield func(api.Span) bool) {
		first, _, ok := l.Floor(from)
		if !ok {
			first = from
		}
		for _, s := range l.From(first) {
			if !yield(s) {
				return
			}
		}
	}
}

// parts goes through what of a span was sacked.
func (l spans) parts(s api.Span) iter.Seq[api.Span] {
	return func(yield func(api.Span) bool) {
		for one := range l.rise(s.From) {
			if one.From >= s.To {
				return
			}
			if part := span.Meet(one, s); span.Len(part) > 0 && !yield(part) {
				return
			}
		}
	}
}

// near are the spans that touch another one.
func (l spans) near(s api.Span) []api.Span {
	var near []api.Span
	for one := range l.rise(s.From) {
		if one.From > s.To {
			break
		}
		if span.Touch(one, s) {
			near = append(near, one)
		}
	}
	return near
}

// add puts a span in, which is not empty; those that touch it become one with it.
func (l spans) add(s api.Span) api.Errno {
	near := l.near(s)
	if l.Len()-len(near)+1 > api.MaxRuns {
		return api.ErrFull
	}
	for _, one := range near {
		l.Delete(one.From)
	}
	whole := span.Hull(append(near, s)...)
	l.Put(whole.From, whole)
	return api.OK
}

// drop takes out what is below an offset.
func (l spans) drop(off int) {
	for {
		from, s, ok := l.At(0)
		if !ok || from >= off {
			return
		}
		l.Delete(from)
		if rest := span.From(s, off); span.Len(rest) > 0 {
			l.Put(rest.From, rest)
		}
	}
}
