package span

import (
	"iter"

	"undertow/api"
)

// Cut goes through a span's pieces.
func Cut(s api.Span, size int) iter.Seq[api.Span] {
	return func(yield func(api.Span) bool) {
		from := fit(s).From
		for to := range ends(fit(s), size) {
			if !yield(api.Span{From: from, To: to}) {
				return
			}
			from = to
		}
	}
}

// ends goes through the places at which a span's pieces end.
func ends(s api.Span, size int) iter.Seq[int] {
	return func(yield func(int) bool) {
		if size < 1 {
			return
		}
		for at := s.From; at < s.To; {
			// Not at + size, held against the end: that may go over the numbers' ends.
			at += min(size, s.To-at)
			if !yield(at) {
				return
			}
		}
	}
}
