package rack_test

import (
	"cmp"
	"math"
	"math/big"
	"math/rand"
	"reflect"
	"slices"
	"testing"

	"undertow/api"
	"undertow/board"
	"undertow/book"
	"undertow/rack"
)

// The calls with the types that the chapter lists.
var (
	_ func(int) (*rack.Rack, api.Errno)                              = rack.New
	_ func(*rack.Rack, book.Rec, int, int, bool, rack.Echo) bool     = (*rack.Rack).Came
	_ func(*rack.Rack, int, int) bool                                = (*rack.Rack).Dup
	_ func(*rack.Rack)                                               = (*rack.Rack).Calm
	_ func(*rack.Rack, int, bool, int, bool) int                     = (*rack.Rack).Window
	_ func(*rack.Rack, *book.Book, int, int) ([]api.Span, int, bool) = (*rack.Rack).Late
	_ func(*rack.Rack) int                                           = (*rack.Rack).Rtt
	_ func(*rack.Rack) int                                           = (*rack.Rack).Order
	_ func(*rack.Rack) bool                                          = (*rack.Rack).Mixed
	_ func(*rack.Rack) int                                           = (*rack.Rack).Mult
	_ func(*rack.Rack) *rack.Rack                                    = (*rack.Rack).Clone
	_                                                                = rack.Echo{Told: false, Val: 0}
)

// untold is an echo that is not told.
var untold = rack.Echo{}

// echo is one that is told.
func echo(val uint32) rack.Echo {
	return rack.Echo{Told: true, Val: val}
}

// to is a span.
func to(from, to int) api.Span {
	return api.Span{From: from, To: to}
}

// rec is a record that comes.
func rec(end, sent, order, times int) book.Rec {
	return book.Rec{Span: to(end-1, end), Sent: sent, Order: order, Times: times, Out: 1}
}

// told is all that a rack is asked for.
type told struct {
	rtt, order, mult int
	mixed            bool
}

// tell is what a rack answers.
func tell(x *rack.Rack) told {
	return told{x.Rtt(), x.Order(), x.Mult(), x.Mixed()}
}

// mustTell fails if a rack answers something else.
func mustTell(t *testing.T, x *rack.Rack, want told) {
	t.Helper()
	if got := tell(x); got != want {
		t.Fatalf("%+v, not %+v", got, want)
	}
}

// at is a rack to which nothing came.
func at(t *testing.T, floor int) *rack.Rack {
	t.Helper()
	x, e := rack.New(floor)
	if x == nil || e != api.OK {
		t.Fatalf("New(%d): %d", floor, e)
	}
	return x
}

// after is a rack to which a transmission of that order came, after a time.
func after(t *testing.T, rtt, order int) *rack.Rack {
	t.Helper()
	x := at(t, 0)
	mustCome(t, x, rec(1, 0, order, 1), rtt, 0, false, untold, true)
	mustTell(t, x, told{rtt: rtt, order: order, mult: 1})
	return x
}

// mustCome fails if Came answers something else.
func mustCome(t *testing.T, x *rack.Rack, r book.Rec, now, least int, has bool, e rack.Echo, want bool) {
	t.Helper()
	if got := x.Came(r, now, least, has, e); got != want {
		t.Fatalf("Came(%+v, %d, %d, %t, %+v): %t", r, now, least, has, e, got)
	}
}

// mustDup fails if Dup answers something else, or leaves another Mult.
func mustDup(t *testing.T, x *rack.Rack, una, nxt int, want bool, mult int) {
	t.Helper()
	if got := x.Dup(una, nxt); got != want || x.Mult() != mult {
		t.Fatalf("Dup(%d, %d): %t, Mult %d, not %t, %d", una, nxt, got, x.Mult(), want, mult)
	}
}

// mustCalm fails if Mult is another one when so many recoveries have ended.
func mustCalm(t *testing.T, x *rack.Rack, times, mult int) {
	t.Helper()
	for range times {
		x.Calm()
	}
	if x.Mult() != mult {
		t.Fatalf("Mult is %d, not %d", x.Mult(), mult)
	}
}

// mustBeLate fails if Late tells something else.
func mustBeLate(t *testing.T, x *rack.Rack, b *book.Book, now, window int, next int, ok bool, want ...api.Span) {
	t.Helper()
	l, at, more := x.Late(b, now, window)
	if !slices.Equal(l, want) || at != next || more != ok {
		t.Fatalf("Late(%d, %d): %v, %d, %t, not %v, %d, %t", now, window, l, at, more, want, next, ok)
	}
}

// bookOf is a book in which segments of 10 bytes were sent at these times.
func bookOf(t *testing.T, times ...int) *book.Book {
	t.Helper()
	b, e := book.New(0)
	for i, now := range times {
		if e != api.OK {
			break
		}
		e = b.Send(to(10*i, 10*i+10), now)
	}
	if e != api.OK {
		t.Fatal(e)
	}
	return b
}

// mustLose deems segments lost.
func mustLose(t *testing.T, b *book.Book, l ...int) {
	t.Helper()
	for _, from := range l {
		if e := b.Lose(from); e != api.OK {
			t.Fatal(from, e)
		}
	}
}

func TestExamples(t *testing.T) {
	b, x := bookOf(t, 0, 1), at(t, 5)
	have, _ := board.New(0)
	have.Sent(20)
	have.Sack(to(10, 20))
	for _, r := range b.Deliver(have) {
		mustCome(t, x, r, 11, 0, false, untold, true)
	}
	mustTell(t, x, told{rtt: 10, order: 2, mult: 1})
	mustBeLate(t, x, b, 15, 5, 16, true)
	mustBeLate(t, x, b, 16, 5, 0, false, to(0, 10))
}

// What the calls of a rack are made of are none of its own.
func TestARackHasNoOtherCalls(t *testing.T) {
	var got []string
	for m := range reflect.TypeFor[*rack.Rack]().Methods() {
		got = append(got, m.Name)
	}
	slices.Sort(got)
	if want := []string{"Calm", "Came", "Clone", "Dup", "Late", "Mixed", "Mult", "Order", "Rtt", "Window"}; !slices.Equal(got, want) {
		t.Error(got)
	}
	if n := reflect.TypeFor[*rack.Echo]().NumMethod(); n != 0 {
		t.Error(n)
	}
}

// P15.1
func TestNew(t *testing.T) {
	for _, floor := range []int{0, 1, 5, 1_000_000, api.MaxRto - 1, api.MaxRto} {
		x := at(t, floor)
		mustTell(t, x, told{mult: 1})
		mustBeLate(t, x, bookOf(t, 0, 1), math.MaxInt, 0, 0, false)
		if got := x.Window(0, true, 0, false); got != floor {
			t.Errorf("Window %d, not %d", got, floor)
		}
		// The end is 0: what goes no further comes in order, what ends below it does not.
		mustCome(t, x, book.Rec{Times: 1}, 0, 0, false, untold, false)
		mustTell(t, x, told{mult: 1})
		// The round is 0.
		mustDup(t, x, -1, 7, false, 1)
		mustDup(t, x, 0, 7, true, 2)
	}
	for _, floor := range []int{-1, -5, math.MinInt, api.MaxRto + 1, math.MaxInt} {
		if x, e := rack.New(floor); x != nil || e != api.ErrArg {
			t.Errorf("New(%d): %v, %d", floor, x, e)
		}
	}
}

// P15.2: which times count.
func TestCame(t *testing.T) {
	const wrap = 1 << 32
	for _, c := range []struct {
		name       string
		r          book.Rec
		now, least int
		has        bool
		e          rack.Echo
		ok         bool
		rtt        int
	}{
		{"once", rec(10, 5, 1, 1), 12, 0, false, untold, true, 7},
		{"at once", rec(10, 5, 1, 1), 5, 0, false, untold, true, 0},
		{"below 0", rec(10, 5, 1, 1), 4, 0, false, untold, false, 0},
		{"far below 0", rec(10, api.MaxOff, 1, 1), math.MinInt, 0, false, untold, false, 0},
		{"once, below the least", rec(10, 5, 1, 1), 12, 100, true, untold, true, 7},
		{"once, though the echo is of an earlier one", rec(10, 5, 1, 1), 12, 0, true, echo(4), true, 7},

		{"twice", rec(10, 5, 2, 2), 12, 3, true, untold, true, 7},
		{"twice, as the least", rec(10, 5, 2, 2), 12, 7, true, untold, true, 7},
		{"twice, below the least", rec(10, 5, 2, 2), 12, 8, true, untold, false, 0},
		{"twice, without a least", rec(10, 5, 2, 2), 12, 3, false, untold, false, 0},
		{"twice, a least below 0", rec(10, 5, 2, 2), 5, -1, true, untold, true, 0},
		{"twice, below 0 and above the least", rec(10, 5, 2, 2), 4, -5, true, untold, false, 0},
		{"twice, at once", rec(10, 5, 2, 2), 5, 0, true, untold, true, 0},
		{"three times", rec(10, 5, 3, 3), 12, 3, true, untold, true, 7},
		{"three times, below the least", rec(10, 5, 3, 3), 12, 8, true, untold, false, 0},

		{"the echo is of this one", rec(10, 5, 2, 2), 12, 3, true, echo(5), true, 7},
		{"the echo is of an earlier one", rec(10, 5, 2, 2), 12, 3, true, echo(4), false, 0},
		{"the echo is of a later one", rec(10, 5, 2, 2), 12, 3, true, echo(6), true, 7},
		{"the echo is of an earlier one, not told", rec(10, 5, 2, 2), 12, 3, true, rack.Echo{Val: 4}, true, 7},
		{"the echo of this one does not make up for the least", rec(10, 5, 2, 2), 12, 8, true, echo(5), false, 0},
		{"nor for none", rec(10, 5, 2, 2), 12, 3, false, echo(5), false, 0},
		{"an echo of 0", rec(10, 5, 2, 2), 12, 3, true, echo(0), false, 0},
		{"an echo of 0, sent at 0", rec(10, 0, 2, 2), 12, 3, true, echo(0), true, 12},

		{"numbers go round", rec(10, wrap+5, 2, 2), wrap + 12, 3, true, echo(5), true, 7},
		{"behind where they go round", rec(10, wrap+5, 2, 2), wrap + 12, 3, true, echo(math.MaxUint32), false, 0},
		{"ahead of where they go round", rec(10, wrap-1, 2, 2), wrap + 12, 3, true, echo(0), true, 13},
		{"far from there", rec(10, api.MaxOff-1, 2, 2), api.MaxOff, 1, true, echo(math.MaxUint32), true, 1},
		{"the shorter way round", rec(10, 1<<31-1, 2, 2), 1 << 31, 0, true, echo(0), false, 0},
		{"half the way round leads back", rec(10, 1<<31, 2, 2), 1 << 31, 0, true, echo(0), true, 0},
		{"half the way round and one more", rec(10, 1<<31+1, 2, 2), 1<<31 + 1, 0, true, echo(0), true, 0},

		{"no order", rec(10, 5, 0, 1), 12, 0, false, untold, false, 0},
		{"an order below 0", rec(10, 5, -1, 1), 12, 0, false, untold, false, 0},
		{"never sent", rec(10, 5, 1, 0), 12, 100, false, echo(1), true, 7},
		{"sent less than never", rec(10, 5, 1, math.MinInt), 12, 100, false, echo(1), true, 7},
		{"all the time that there is", rec(10, 0, 1, 1), math.MaxInt, 0, false, untold, true, math.MaxInt},
		{"more than all", rec(10, -1, 1, 1), math.MaxInt, 0, false, untold, true, math.MaxInt},
		{"from end to end", rec(10, math.MinInt, 1, 2), math.MaxInt, math.MaxInt, true, untold, true, math.MaxInt},
		{"below 0 on both sides", rec(10, math.MinInt, 1, 1), -1, 0, false, untold, true, math.MaxInt},
		{"the same below 0", rec(10, math.MinInt, 1, 1), math.MinInt, 0, false, untold, true, 0},
	} {
		x := at(t, 3)
		if got := x.Came(c.r, c.now, c.least, c.has, c.e); got != c.ok {
			t.Errorf("%s: %t", c.name, got)
		}
		want := told{mult: 1}
		if c.ok {
			want.rtt, want.order = c.rtt, c.r.Order
		}
		if got := tell(x); got != want {
			t.Errorf("%s: %+v, not %+v", c.name, got, want)
		}
	}
}

// P15.2: what was sent ahead of the last one that came changes neither Rtt nor Order.
func TestCameByTheOrder(t *testing.T) {
	x := at(t, 0)
	mustCome(t, x, rec(10, 0, 4, 1), 50, 0, false, untold, true)
	mustTell(t, x, told{rtt: 50, order: 4, mult: 1})
	for order := -1; order <= 4; order++ {
		mustCome(t, x, rec(20, 0, order, 1), 70, 0, false, untold, false)
		mustTell(t, x, told{rtt: 50, order: 4, mult: 1})
	}
	// A time that does not count leaves the Order as it is, so that a lower one than that may come yet.
	mustCome(t, x, rec(30, 60, 9, 2), 70, 11, true, untold, false)
	mustTell(t, x, told{rtt: 50, order: 4, mult: 1})
	// The last one tells its own time, be it longer or shorter.
	mustCome(t, x, rec(30, 60, 5, 1), 70, 0, false, untold, true)
	mustTell(t, x, told{rtt: 10, order: 5, mult: 1})
	mustCome(t, x, rec(40, 60, 7, 1), 100, 0, false, untold, true)
	mustTell(t, x, told{rtt: 40, order: 7, mult: 1})
}

// P15.2: whether segments come in another order.
func TestMixed(t *testing.T) {
	type come struct{ end, times int }
	for _, c := range []struct {
		l    []come
		want bool
	}{
		{nil, false},
		{[]come{{10, 1}, {20, 1}, {30, 1}}, false},
		{[]come{{20, 1}, {20, 1}}, false},
		{[]come{{20, 1}, {19, 1}}, true},
		// The end is the greatest one, not the last one.
		{[]come{{30, 1}, {20, 2}, {29, 1}}, true},
		{[]come{{30, 1}, {20, 2}, {30, 1}}, false},
		// What was sent again may come later, but it goes as far as all others.
		{[]come{{20, 1}, {10, 2}, {15, 3}}, false},
		{[]come{{20, 2}, {10, 1}}, true},
		{[]come{{20, 0}, {10, 0}, {20, 1}}, false},
		{[]come{{20, 0}, {10, 1}}, true},
		// For good.
		{[]come{{20, 1}, {10, 1}, {30, 1}, {40, 1}, {50, 2}}, true},
		// The end is 0 at first.
		{[]come{{0, 1}, {0, 1}}, false},
		{[]come{{-1, 1}}, true},
		{[]come{{-1, 2}, {0, 1}}, false},
		{[]come{{math.MaxInt, 1}, {math.MaxInt - 1, 1}}, true},
	} {
		x := at(t, 0)
		for i, r := range c.l {
			x.Came(rec(r.end, 0, i+1, r.times), 5, 0, true, untold)
		}
		if x.Mixed() != c.want {
			t.Errorf("%v: %t", c.l, x.Mixed())
		}
	}
}

// P15.2: that is looked at first, whether its time counts or not.
func TestMixedThoughItDoesNotCount(t *testing.T) {
	x := at(t, 0)
	mustCome(t, x, rec(20, 9, 5, 2), 8, 0, false, untold, false)
	mustTell(t, x, told{mult: 1})
	mustCome(t, x, rec(19, 9, 5, 1), 8, 0, false, untold, false)
	mustTell(t, x, told{mult: 1, mixed: true})
	x = at(t, 0)
	mustCome(t, x, rec(20, 0, 5, 1), 8, 0, false, untold, true)
	mustCome(t, x, rec(19, 0, 4, 1), 8, 0, false, untold, false)
	mustTell(t, x, told{rtt: 8, order: 5, mult: 1, mixed: true})
}

// P15.3
func TestDup(t *testing.T) {
	x := at(t, 0)
	mustDup(t, x, -1, 100, false, 1)
	mustDup(t, x, 0, 100, true, 2)
	for _, una := range []int{99, 0, -1, math.MinInt} {
		mustDup(t, x, una, 500, false, 2)
	}
	// The round is where the last one that was told had it, not where one was that was not.
	mustDup(t, x, 100, 200, true, 3)
	mustDup(t, x, 199, 300, false, 3)
	mustDup(t, x, 201, 200, true, 4)
	// It may go back.
	mustDup(t, x, 200, 50, true, 5)
	mustDup(t, x, 49, 50, false, 5)
	mustDup(t, x, 50, math.MinInt, true, 6)
	mustDup(t, x, math.MinInt, math.MaxInt, true, 7)
	mustDup(t, x, math.MaxInt-1, 0, false, 7)
	mustDup(t, x, math.MaxInt, 0, true, 8)
	// At most 16, of which it is told all the same.
	for mult := 9; mult <= 16; mult++ {
		mustDup(t, x, 0, 0, true, mult)
	}
	mustDup(t, x, 0, 0, true, 16)
	mustDup(t, x, 0, 10, true, 16)
	mustDup(t, x, 9, 10, false, 16)
	mustTell(t, x, told{mult: 16})
}

// P15.3
func TestCalm(t *testing.T) {
	x := at(t, 0)
	mustDup(t, x, 0, 0, true, 2)
	mustDup(t, x, 0, 0, true, 3)
	mustCalm(t, x, 15, 3)
	mustCalm(t, x, 1, 1)
	// Where it is 1 already, it begins anew all the same, and each Dup begins it anew.
	mustCalm(t, x, 16+7, 1)
	mustDup(t, x, 0, 10, true, 2)
	mustCalm(t, x, 15, 2)
	mustDup(t, x, 10, 10, true, 3)
	mustCalm(t, x, 15, 3)
	// One that is not told does not.
	mustDup(t, x, 9, 10, false, 3)
	mustCalm(t, x, 1, 1)
	// At 16 it does, too.
	for mult := 2; mult <= 16; mult++ {
		mustDup(t, x, 10, 10, true, mult)
	}
	mustCalm(t, x, 15, 16)
	mustDup(t, x, 10, 10, true, 16)
	mustCalm(t, x, 15, 16)
	mustCalm(t, x, 1, 1)
	// The round stays.
	mustDup(t, x, 9, 10, false, 1)
}

// widened is a rack of a floor, of so many quarters, to which segments came in another order, or not.
func widened(t *testing.T, floor, mult int, mixed bool) *rack.Rack {
	t.Helper()
	x := at(t, floor)
	for n := 2; n <= mult; n++ {
		mustDup(t, x, 0, 0, true, n)
	}
	if mixed {
		x.Came(rec(-1, 0, 1, 1), 0, 0, false, untold)
	}
	mustTell(t, x, told{order: x.Order(), mult: mult, mixed: mixed})
	return x
}

// P15.4
func TestWindow(t *testing.T) {
	const most, wide = api.MaxRto, api.MaxRto
	for _, c := range []struct {
		floor, mult int
		mixed       bool
		least       int
		has         bool
		srtt        int
		sharp       bool
		want        int
	}{
		{0, 1, false, 100, true, wide, false, 25},
		{0, 1, true, 100, true, wide, false, 25},
		{0, 1, true, 100, true, wide, true, 25},
		// Sharp and in order, or without a least: 0.
		{0, 1, false, 100, true, wide, true, 0},
		{0, 1, true, 100, false, wide, true, 0},
		{0, 1, true, 100, false, wide, false, 0},
		{0, 1, false, 100, false, wide, false, 0},
		{7, 16, false, 100, true, wide, true, 7},
		{7, 16, true, 100, false, wide, false, 7},
		// The quotient is cut down, not what it is of.
		{0, 1, false, 0, true, wide, false, 0},
		{0, 1, false, 3, true, wide, false, 0},
		{0, 1, false, 4, true, wide, false, 1},
		{0, 2, false, 7, true, wide, false, 3},
		{0, 3, false, 7, true, wide, false, 5},
		{0, 15, false, 7, true, wide, false, 26},
		{0, 16, false, 7, true, wide, false, 28},
		{0, 4, false, 7, true, wide, false, 7},
		// Srtt at most, the floor at least, even if that is above Srtt.
		{0, 4, false, 100, true, 99, false, 99},
		{0, 4, false, 100, true, 100, false, 100},
		{0, 4, false, 100, true, 101, false, 100},
		{0, 4, false, 100, true, 0, false, 0},
		{98, 4, false, 100, true, 99, false, 99},
		{100, 4, false, 100, true, 99, false, 100},
		{200, 4, false, 100, true, wide, false, 200},
		{99, 4, false, 100, true, wide, false, 100},
		{101, 4, false, 100, true, wide, false, 101},
		// Beyond the limits.
		{0, 4, false, -1, true, wide, false, 0},
		{0, 4, false, math.MinInt, true, wide, false, 0},
		{5, 4, false, math.MinInt, true, math.MinInt, false, 5},
		{0, 4, false, 100, true, -1, false, 0},
		{0, 4, false, 100, true, math.MinInt, false, 0},
		{0, 4, false, most, true, wide, false, most},
		{0, 4, false, most + 1, true, wide, false, most},
		{0, 16, false, most, true, wide, false, most},
		{0, 16, true, math.MaxInt, true, math.MaxInt, true, most},
		{0, 1, false, math.MaxInt, true, math.MaxInt, false, most / 4},
		{0, 1, false, most + 400, true, math.MaxInt, false, most / 4},
		{0, 16, false, math.MaxInt, true, most + 1, false, most},
		{0, 16, false, math.MaxInt, true, most - 1, false, most - 1},
		{most, 1, false, 100, true, 100, true, most},
		{most, 16, true, math.MaxInt, true, math.MaxInt, false, most},
	} {
		x := widened(t, c.floor, c.mult, c.mixed)
		was := tell(x)
		for range 2 {
			if got := x.Window(c.least, c.has, c.srtt, c.sharp); got != c.want {
				t.Errorf("%+v: %d", c, got)
			}
		}
		mustTell(t, x, was)
	}
}

// P15.5
func TestLate(t *testing.T) {
	b := bookOf(t, 0, 3, 3, 8, 20)
	x := after(t, 10, 4)
	// 0 may be under way till 15, 10 and 20 till 18; 30 and 40 have as great an Order as the last one, or a greater one.
	for now := -1; now <= 15; now++ {
		mustBeLate(t, x, b, now, 5, 16, true)
	}
	for now := 16; now <= 18; now++ {
		mustBeLate(t, x, b, now, 5, 19, true, to(0, 10))
	}
	for _, now := range []int{19, 20, 1000, api.MaxOff, math.MaxInt} {
		mustBeLate(t, x, b, now, 5, 0, false, to(0, 10), to(10, 20), to(20, 30))
	}
	mustBeLate(t, x, b, math.MinInt, 5, 16, true)
	// A further one is ahead of the last one that came.
	mustBeLate(t, after(t, 10, 5), b, 23, 5, 24, true, to(0, 10), to(10, 20), to(20, 30))
	mustBeLate(t, after(t, 10, 5), b, 24, 5, 0, false, to(0, 10), to(10, 20), to(20, 30), to(30, 40))
	mustBeLate(t, after(t, 10, 6), b, 24, 5, 36, true, to(0, 10), to(10, 20), to(20, 30), to(30, 40))
	// None is.
	mustBeLate(t, after(t, 10, 1), b, 1000, 5, 0, false)
	mustBeLate(t, at(t, 9), b, 1000, 5, 0, false)
	mustBeLate(t, x, bookOf(t), 1000, 5, 0, false)
	mustBeLate(t, x, nil, 1000, 5, 0, false)
}

// P15.5: what is lost is not late once more, and nobody waits for it.
func TestLateIsNotLost(t *testing.T) {
	b := bookOf(t, 0, 3, 6, 9)
	x := after(t, 10, 4)
	mustLose(t, b, 0)
	mustBeLate(t, x, b, 12, 0, 14, true)
	mustBeLate(t, x, b, 14, 0, 17, true, to(10, 20))
	mustLose(t, b, 20)
	mustBeLate(t, x, b, 13, 0, 14, true)
	mustBeLate(t, x, b, 14, 0, 0, false, to(10, 20))
	mustBeLate(t, x, b, 1000, 0, 0, false, to(10, 20))
	mustLose(t, b, 10)
	mustBeLate(t, x, b, 1000, 0, 0, false)
	// Spared, they are.
	if b.Spare() != 3 {
		t.Fatal("not all were lost")
	}
	mustBeLate(t, x, b, 1000, 0, 0, false, to(0, 10), to(10, 20), to(20, 30))
}

// P15.5: by the order of what was sent, not by the offsets; what goes again has a new Order.
func TestLateByTheOrder(t *testing.T) {
	b := bookOf(t, 0, 0, 0)
	for i, from := range []int{10, 0} {
		mustLose(t, b, from)
		if _, e := b.Again(from, 5+i); e != api.OK {
			t.Fatal(e)
		}
	}
	// By the Order: 20 (3), 10 (4), 0 (5).
	mustBeLate(t, after(t, 10, 4), b, 100, 0, 0, false, to(20, 30))
	mustBeLate(t, after(t, 10, 5), b, 100, 0, 0, false, to(20, 30), to(10, 20))
	mustBeLate(t, after(t, 10, 6), b, 100, 0, 0, false, to(20, 30), to(10, 20), to(0, 10))
	mustBeLate(t, after(t, 10, 6), b, 16, 0, 17, true, to(20, 30), to(10, 20))
	mustBeLate(t, after(t, 10, 6), b, 15, 0, 16, true, to(20, 30))
}

// P15.5: windows beyond their limits, and times beyond an int's.
func TestLateAtTheEnds(t *testing.T) {
	b := bookOf(t, 0, 3)
	x := after(t, 10, 2)
	for _, window := range []int{0, -1, math.MinInt} {
		mustBeLate(t, x, b, 10, window, 11, true)
		mustBeLate(t, x, b, 11, window, 0, false, to(0, 10))
	}
	mustBeLate(t, x, b, 11+api.MaxRto-1, api.MaxRto-1, 0, false, to(0, 10))
	for _, window := range []int{api.MaxRto, api.MaxRto + 1, math.MaxInt} {
		mustBeLate(t, x, b, 10+api.MaxRto, window, 11+api.MaxRto, true)
		mustBeLate(t, x, b, 11+api.MaxRto, window, 0, false, to(0, 10))
	}
	// The first one may be under way for longer than the clock goes; the greatest time is all that can be told of the second one.
	b = bookOf(t, 7, api.MaxOff, api.MaxOff)
	mustBeLate(t, after(t, api.MaxOff-2, 3), b, api.MaxOff+5, 0, api.MaxOff+6, true)
	mustBeLate(t, after(t, api.MaxOff-2, 3), b, api.MaxOff+6, 0, math.MaxInt, true, to(0, 10))
	mustBeLate(t, after(t, api.MaxOff-2, 3), b, math.MaxInt-1, 0, math.MaxInt, true, to(0, 10))
	mustBeLate(t, after(t, api.MaxOff-2, 3), b, math.MaxInt, 0, 0, false, to(0, 10), to(10, 20))
	for _, rtt := range []int{api.MaxOff - 1, api.MaxOff, api.MaxOff + 1} {
		mustBeLate(t, after(t, rtt, 3), b, math.MaxInt, 0, math.MaxInt, true, to(0, 10))
		mustBeLate(t, after(t, rtt, 3), b, math.MaxInt, api.MaxRto, math.MaxInt, true, to(0, 10))
	}
	for _, window := range []int{0, 1, api.MaxRto, math.MaxInt} {
		mustBeLate(t, after(t, math.MaxInt, 3), b, math.MaxInt, window, math.MaxInt, true)
		mustBeLate(t, after(t, math.MaxInt, 3), b, math.MinInt, window, math.MaxInt, true)
	}
}

// P15.5: what was told is nobody else's, and to be asked changes nothing.
func TestWhatIsLateIsNew(t *testing.T) {
	b := bookOf(t, 0, 3, 8)
	x := after(t, 10, 3)
	was, all := tell(x), slices.Collect(b.InOrder())
	first, _, _ := x.Late(b, 100, 0)
	first[0], first[1] = to(7, 8), to(8, 9)
	second, _, _ := x.Late(b, 100, 0)
	if !slices.Equal(first, []api.Span{to(7, 8), to(8, 9)}) || !slices.Equal(second, []api.Span{to(0, 10), to(10, 20)}) {
		t.Error(first, second)
	}
	mustTell(t, x, was)
	if got := slices.Collect(b.InOrder()); !slices.Equal(got, all) {
		t.Error(got, all)
	}
}

// whole is a number without limits.
func whole(n int) *big.Int {
	return big.NewInt(int64(n))
}

// sum is numbers together.
func sum(l ...int) *big.Int {
	all := new(big.Int)
	for _, n := range l {
		all.Add(all, whole(n))
	}
	return all
}

// held is a number as an int, or the greatest int.
func held(n *big.Int) int {
	if n.Cmp(whole(math.MaxInt)) > 0 {
		return math.MaxInt
	}
	return int(n.Int64())
}

// limited is a number, or the limit of times that it is beyond.
func limited(n int) int {
	switch {
	case n < 0:
		return 0
	case n > api.MaxRto:
		return api.MaxRto
	}
	return n
}

// model is what a rack must be.
type model struct {
	floor, rtt, order, end, mult, round, patience int
	mixed                                         bool
}

// modelOf is a model to which nothing came.
func modelOf(floor int) *model {
	return &model{floor: floor, mult: 1, patience: 16}
}

// clone is the same model, going its own way.
func (m *model) clone() *model {
	c := *m
	return &c
}

// told is what a rack that is as the model answers.
func (m *model) told() told {
	return told{m.rtt, m.order, m.mult, m.mixed}
}

// doubtful tells whether a record that came may be the answer to an earlier transmission.
func doubtful(r book.Rec, took *big.Int, least int, has bool, e rack.Echo) bool {
	if r.Times <= 1 {
		return false
	}
	way := uint32(r.Sent) - e.Val
	behind := way > 0 && way < 1<<31
	return e.Told && behind || !has || took.Cmp(whole(least)) < 0
}

// came is told a record that has come.
func (m *model) came(r book.Rec, now, least int, has bool, e rack.Echo) bool {
	if r.Times == 1 && r.Span.To < m.end {
		m.mixed = true
	}
	if r.Span.To > m.end {
		m.end = r.Span.To
	}
	took := new(big.Int).Sub(whole(now), whole(r.Sent))
	if took.Sign() < 0 || doubtful(r, took, least, has, e) || r.Order <= m.order {
		return false
	}
	m.rtt, m.order = held(took), r.Order
	return true
}

// dup is told that bytes came once more.
func (m *model) dup(una, nxt int) bool {
	if una < m.round {
		return false
	}
	if m.mult < 16 {
		m.mult++
	}
	m.round, m.patience = nxt, 16
	return true
}

// calm is told that a recovery ends.
func (m *model) calm() {
	m.patience--
	if m.patience == 0 {
		m.mult, m.patience = 1, 16
	}
}

// window is how much longer a segment may be under way.
func (m *model) window(least int, has bool, srtt int, sharp bool) int {
	wide := 0
	if has && (m.mixed || !sharp) {
		wide = m.mult * limited(least) / 4
		if wide > limited(srtt) {
			wide = limited(srtt)
		}
	}
	if wide < m.floor {
		wide = m.floor
	}
	return wide
}

// late is what of these records is late, and when the next one will be.
func (m *model) late(l []book.Rec, now, window int) ([]api.Span, int, bool) {
	var late []api.Span
	var next *big.Int
	slices.SortFunc(l, func(a, b book.Rec) int { return cmp.Compare(a.Order, b.Order) })
	for _, r := range l {
		if r.Lost || r.Order >= m.order {
			continue
		}
		end := sum(r.Sent, m.rtt, limited(window))
		if end.Cmp(whole(now)) < 0 {
			late = append(late, r.Span)
			continue
		}
		if at := end.Add(end, whole(1)); next == nil || at.Cmp(next) < 0 {
			next = at
		}
	}
	if next == nil {
		return late, 0, false
	}
	return late, held(next), true
}

// mustBe fails if a rack answers something else than the model, of a book, at a time.
func mustBe(t *testing.T, x *rack.Rack, m *model, b *book.Book, now, window int) {
	t.Helper()
	mustTell(t, x, m.told())
	late, next, ok := m.late(slices.Collect(b.All()), now, window)
	mustBeLate(t, x, b, now, window, next, ok, late...)
}

// net is a book, a board of what came of it, a clock, and what a rack of it is told.
type net struct {
	b   *book.Book
	x   *board.Board
	now int
}

// newNet is one in which nothing was sent.
func newNet(t *testing.T) *net {
	t.Helper()
	b, e := book.New(0)
	x, err := board.New(0)
	if e != api.OK || err != api.OK {
		t.Fatal(e, err)
	}
	return &net{b: b, x: x}
}

// send sends something: a lost segment again, or a new one.
func (n *net) send(t *testing.T, rnd *rand.Rand) {
	t.Helper()
	if r, ok := n.b.NextLost(); ok && rnd.Intn(2) == 0 {
		if _, e := n.b.Again(r.Span.From, n.now); e != api.OK {
			t.Fatal(e)
		}
		return
	}
	if n.b.Len() > 12 {
		return
	}
	s := to(n.b.Nxt(), n.b.Nxt()+1+rnd.Intn(9))
	if e := n.b.Send(s, n.now); e != api.OK || n.x.Sent(s.To) != api.OK {
		t.Fatal(s, e)
	}
}

// comes lets some of what was sent come, and is the records that it has all of.
func (n *net) comes(rnd *rand.Rand) []book.Rec {
	for r := range n.b.All() {
		if rnd.Intn(6) == 0 {
			n.x.Sack(r.Span)
		}
	}
	if r, ok := n.b.First(); ok && rnd.Intn(3) == 0 {
		n.x.Ack(r.Span.To)
	}
	return n.b.Deliver(n.x)
}

// heard is an echo that may come with what was sent at a time, or another one.
func (n *net) heard(rnd *rand.Rand, sent int) rack.Echo {
	return rack.Echo{Told: rnd.Intn(2) == 0, Val: uint32(sent + rnd.Intn(9) - 4)}
}

// walk does one thing to both, and fails if they answer otherwise.
func (n *net) walk(t *testing.T, rnd *rand.Rand, x *rack.Rack, m *model) {
	t.Helper()
	switch rnd.Intn(12) {
	case 0:
		una, nxt := rnd.Intn(n.b.Nxt()+1), n.b.Nxt()
		mustDup(t, x, una, nxt, m.dup(una, nxt), m.mult)
	case 1:
		x.Calm()
		m.calm()
	case 2, 3, 4:
		for _, r := range n.comes(rnd) {
			least, has, e := rnd.Intn(12), rnd.Intn(4) > 0, n.heard(rnd, r.Sent)
			mustCome(t, x, r, n.now, least, has, e, m.came(r, n.now, least, has, e))
		}
	case 5, 6, 7:
		n.now += rnd.Intn(4)
	case 8:
		late, _, _ := x.Late(n.b, n.now, rnd.Intn(8))
		for _, s := range late {
			mustLose(t, n.b, s.From)
		}
	default:
		n.send(t, rnd)
	}
	mustBe(t, x, m, n.b, n.now+rnd.Intn(20)-5, rnd.Intn(12)-2)
}

// mustTakeTime fails if something is late too early, or too late, or if it is not when Late tells that it will be.
func (n *net) mustTakeTime(t *testing.T, x *rack.Rack, window int) (int, bool) {
	t.Helper()
	late, next, ok := x.Late(n.b, n.now, window)
	for r := range n.b.All() {
		if r.Order >= x.Order() || r.Sent >= n.now-x.Rtt()-window {
			if slices.Contains(late, r.Span) {
				t.Fatalf("%+v is late at %d: Rtt %d, Order %d, window %d", r, n.now, x.Rtt(), x.Order(), window)
			}
		}
	}
	if !ok {
		return len(late), false
	}
	ahead, at, _ := x.Late(n.b, next-1, window)
	if next <= n.now || !slices.Equal(ahead, late) || at != next {
		t.Fatalf("at %d: %v, at %d: %v", n.now, late, next-1, ahead)
	}
	if then, _, _ := x.Late(n.b, next, window); len(then) <= len(late) || !slices.Equal(then[:len(late)], late) {
		t.Fatalf("at %d: %v, at %d: %v", n.now, late, next, then)
	}
	return len(late), true
}

// P15.2 to P15.8
func TestAnyWay(t *testing.T) {
	rnd := rand.New(rand.NewSource(1))
	late, waits, counted := 0, 0, 0
	for range 300 {
		floor := rnd.Intn(5)
		n, x, m := newNet(t), at(t, floor), modelOf(floor)
		for range 200 {
			n.walk(t, rnd, x, m)
			l, ok := n.mustTakeTime(t, x, rnd.Intn(8))
			late += l
			if ok {
				waits++
			}
		}
		counted += x.Order()
	}
	if late < 1000 || waits < 1000 || counted < 1000 {
		t.Error("too little was late, or came", late, waits, counted)
	}
}

// edges is numbers at the ends of what there is, and between.
func edges() []int {
	l := []int{0, 1, 3, 7, 100, 1 << 31, 1<<32 + 5}
	for _, n := range []int{api.MaxRto, api.MaxOff, math.MaxInt} {
		l = append(l, n-1, n)
	}
	for _, n := range slices.Clone(l) {
		l = append(l, -n, n+1)
	}
	return l
}

// P15.2 to P15.6, P15.9: whatever it is told, and whatever is asked of it.
func TestAtAllEnds(t *testing.T) {
	rnd := rand.New(rand.NewSource(2))
	all := edges()
	one := func() int { return all[rnd.Intn(len(all))] }
	b := bookOf(t, 0, 3, 1<<32, api.MaxRto, api.MaxOff-1, api.MaxOff)
	mustLose(t, b, 20)
	for range 2000 {
		floor := rnd.Intn(api.MaxRto + 1)
		x, m := at(t, floor), modelOf(floor)
		for range 12 {
			r := book.Rec{Span: to(one(), one()), Sent: one(), Order: rnd.Intn(9) - 1, Times: rnd.Intn(5) - 1}
			now, least, has, e := one(), one(), rnd.Intn(4) > 0, rack.Echo{Told: rnd.Intn(2) == 0, Val: uint32(one())}
			mustCome(t, x, r, now, least, has, e, m.came(r, now, least, has, e))
			una, nxt := one(), one()
			mustDup(t, x, una, nxt, m.dup(una, nxt), m.mult)
			for range rnd.Intn(9) {
				x.Calm()
				m.calm()
			}
			mustBe(t, x, m, b, one(), one())
			least, srtt, sharp := one(), one(), rnd.Intn(2) == 0
			got := x.Window(least, has, srtt, sharp)
			if got != m.window(least, has, srtt, sharp) || got < floor || got > api.MaxRto {
				t.Fatalf("Window(%d, %t, %d, %t): %d, of %+v", least, has, srtt, sharp, got, m)
			}
		}
	}
}

// P15.6
func TestClone(t *testing.T) {
	rnd := rand.New(rand.NewSource(3))
	racks, models := []*rack.Rack{at(t, 4)}, []*model{modelOf(4)}
	n := newNet(t)
	for range 3000 {
		i := rnd.Intn(len(racks))
		if len(racks) < 6 && rnd.Intn(40) == 0 {
			racks, models = append(racks, racks[i].Clone()), append(models, models[i].clone())
		}
		n.walk(t, rnd, racks[i], models[i])
		for i := range racks {
			mustBe(t, racks[i], models[i], n.b, n.now, 3)
			least, srtt := rnd.Intn(50), rnd.Intn(50)
			if got := racks[i].Window(least, true, srtt, true); got != models[i].window(least, true, srtt, true) {
				t.Fatalf("Window(%d, true, %d, true): %d, of %+v", least, srtt, got, models[i])
			}
		}
	}
	if len(racks) < 6 {
		t.Error("too few clones")
	}
	x := after(t, 5, 7)
	if c := x.Clone(); c == x {
		t.Error("a clone is the rack itself")
	}
}

// P15.6: the end, the round and the patience are a clone's, too.
func TestACloneHasWhatIsNotTold(t *testing.T) {
	x := at(t, 9)
	x.Came(rec(50, 0, 1, 1), 5, 0, false, untold)
	mustDup(t, x, 0, 30, true, 2)
	mustCalm(t, x, 15, 2)
	for range 2 {
		c := x.Clone()
		mustTell(t, c, told{rtt: 5, order: 1, mult: 2})
		mustDup(t, c, 29, 100, false, 2)
		mustCalm(t, c, 1, 1)
		c.Came(rec(49, 0, 2, 1), 6, 0, false, untold)
		mustTell(t, c, told{rtt: 6, order: 2, mult: 1, mixed: true})
		mustDup(t, c, 30, 1000, true, 2)
		if got := c.Window(0, false, 0, false); got != 9 {
			t.Errorf("Window %d", got)
		}
		mustTell(t, x, told{rtt: 5, order: 1, mult: 2})
	}
}

// P15.6: of nil
func TestOfNil(t *testing.T) {
	var x *rack.Rack
	b := bookOf(t, 0, 1, 2)
	for _, n := range edges() {
		mustCome(t, x, rec(10, 0, 1, 1), n, n, true, echo(0), false)
		mustDup(t, x, n, n, false, 0)
		x.Calm()
		if got := x.Window(n, true, n, false); got != 0 {
			t.Errorf("Window(%d): %d", n, got)
		}
		mustBeLate(t, x, b, n, n, 0, false)
		mustBeLate(t, x, nil, n, n, 0, false)
	}
	mustTell(t, x, told{})
	if x.Clone() != nil {
		t.Error("a clone of nil is something")
	}
}

// Nothing is promised of what the zero value tells, but that each call ends and does not panic.
func TestTheZeroValue(t *testing.T) {
	var x rack.Rack
	b := bookOf(t, 0, 1, 2)
	for range 40 {
		x.Calm()
	}
	for i := range 3 {
		x.Came(rec(i, i, i, i), i, i, true, echo(0))
		x.Dup(i, i)
		x.Window(i, true, i, false)
		x.Late(b, 10, i)
		x.Clone().Calm()
	}
}

// P15.5: as many records as there may be.
func TestManyRecords(t *testing.T) {
	b, e := book.New(0)
	for i := range 40_000 {
		if e == api.OK {
			e = b.Send(to(i, i+1), i)
		}
	}
	if e != api.OK {
		t.Fatal(e)
	}
	x := after(t, 10, 30_001)
	late, next, ok := x.Late(b, 20_000, 5)
	if len(late) != 19_985 || next != 20_001 || !ok {
		t.Fatal(len(late), next, ok)
	}
	for i, s := range late {
		if s != to(i, i+1) {
			t.Fatal(i, s)
		}
	}
}
