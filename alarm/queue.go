package alarm

import (
	"maps"
	"slices"
)

// alarm is one that is set.
type alarm struct{ name, at int }

// list is alarms; the one that rings first is the least.
type list []alarm

// Len is how many there are.
func (l list) Len() int {
	return len(l)
}

// Less tells whether one rings ahead of another one.
func (l list) Less(i, j int) bool {
	a, b := l[i], l[j]
	return a.at < b.at || a.at == b.at && a.name < b.name
}

// queue is a heap of the library's: a list, and where in it each alarm stands, so that one can be found by its name.
type queue struct {
	list
	place map[int]int
}

// newQueue is one without alarms.
func newQueue() queue {
	return queue{place: map[int]int{}}
}

// put sets an alarm at a place.
func (q *queue) put(i int, a alarm) {
	q.list[i] = a
	q.place[a.name] = i
}

// Swap lets two change places.
func (q *queue) Swap(i, j int) {
	a, b := q.list[i], q.list[j]
	q.put(i, b)
	q.put(j, a)
}

// Push sets an alarm behind all others, as the library asks for it.
func (q *queue) Push(x any) {
	if a, ok := x.(alarm); ok {
		q.list = append(q.list, a)
		q.place[a.name] = q.Len() - 1
	}
}

// Pop takes the last one of the list out, as the library asks for it.
func (q *queue) Pop() any {
	end := q.Len() - 1
	last := q.list[end]
	q.list = q.list[:end]
	delete(q.place, last.name)
	return last
}

// clone is the same queue, going its own way.
func (q *queue) clone() queue {
	return queue{list: slices.Clone(q.list), place: maps.Clone(q.place)}
}
