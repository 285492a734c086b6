package book

import "undertow/api"

// Rec is a record.
type Rec struct {
	Span                    api.Span
	Sent, Order, Times, Out int
	Lost                    bool
}

// goes notes one more transmission.
func (r *Rec) goes(now, order int) {
	r.Sent, r.Order = now, order
	r.Times++
	r.Out++
	r.Lost = false
}

// lose deems all transmissions lost: was one not?
func (r *Rec) lose() bool {
	was := r.Lost
	r.Lost, r.Out = true, 0
	return !was
}

// spare deems it lost no more: was it?
func (r *Rec) spare() bool {
	if !r.Lost {
		return false
	}
	r.Lost, r.Out = false, 1
	return true
}
