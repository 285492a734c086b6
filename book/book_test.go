package book_test

import (
	"cmp"
	"iter"
	"math"
	"math/rand"
	"reflect"
	"slices"
	"testing"

	"undertow/api"
	"undertow/board"
	"undertow/book"
)

// The calls with the types that the chapter lists.
var (
	_ func(int) (*book.Book, api.Errno)                = book.New
	_ func(*book.Book, api.Span, int) api.Errno        = (*book.Book).Send
	_ func(*book.Book, int, int) (book.Rec, api.Errno) = (*book.Book).Again
	_ func(*book.Book, int) api.Errno                  = (*book.Book).Lose
	_ func(*book.Book) int                             = (*book.Book).LoseAll
	_ func(*book.Book) int                             = (*book.Book).Spare
	_ func(*book.Book, *board.Board) []book.Rec        = (*book.Book).Deliver
	_ func(*book.Book, *board.Board) int               = (*book.Book).Pipe
	_ func(*book.Book) (book.Rec, bool)                = (*book.Book).First
	_ func(*book.Book) (book.Rec, bool)                = (*book.Book).Last
	_ func(*book.Book) (book.Rec, bool)                = (*book.Book).NextLost
	_ func(*book.Book) iter.Seq[book.Rec]              = (*book.Book).All
	_ func(*book.Book) iter.Seq[book.Rec]              = (*book.Book).InOrder
	_ func(*book.Book) int                             = (*book.Book).Nxt
	_ func(*book.Book) int                             = (*book.Book).Len
	_ func(*book.Book) *book.Book                      = (*book.Book).Clone
	_                                                  = book.Rec{Span: api.Span{}, Sent: 0, Order: 0, Times: 0, Out: 0, Lost: false}
)

// to is a span.
func to(from, to int) api.Span {
	return api.Span{From: from, To: to}
}

// rec is a record that was sent once and is under way.
func rec(from, end, sent, order int) book.Rec {
	return book.Rec{Span: to(from, end), Sent: sent, Order: order, Times: 1, Out: 1}
}

// lost is a record that is deemed lost.
func lost(r book.Rec) book.Rec {
	r.Lost, r.Out = true, 0
	return r
}

// again is a record as it is once it was sent once more.
func again(r book.Rec, now, order int) book.Rec {
	r.Sent, r.Order, r.Times, r.Out, r.Lost = now, order, r.Times+1, r.Out+1, false
	return r
}

// model is what a book must be: its records, by their Order.
type model struct {
	nxt, sent, now int
	recs           []book.Rec
}

// clone is the same model, going its own way.
func (m *model) clone() *model {
	return &model{m.nxt, m.sent, m.now, slices.Clone(m.recs)}
}

// send notes a segment of so many bytes.
func (m *model) send(n, now int) {
	m.sent, m.now = m.sent+1, now
	m.recs = append(m.recs, rec(m.nxt, m.nxt+n, now, m.sent))
	m.nxt += n
}

// again sends the i-th record once more, and answers it.
func (m *model) again(i, now int) book.Rec {
	m.sent, m.now = m.sent+1, now
	r := again(m.recs[i], now, m.sent)
	m.recs = append(slices.Delete(m.recs, i, i+1), r)
	return r
}

// loseAll deems all lost, and answers how many were not.
func (m *model) loseAll() int {
	n := 0
	for i, r := range m.recs {
		if !r.Lost {
			m.recs[i] = lost(r)
			n++
		}
	}
	return n
}

// spare deems none lost, and answers how many were.
func (m *model) spare() int {
	n := 0
	for i, r := range m.recs {
		if r.Lost {
			m.recs[i].Lost, m.recs[i].Out = false, 1
			n++
		}
	}
	return n
}

// missing is how many of a span's offsets x has not, each asked by itself.
func missing(x *board.Board, s api.Span) int {
	n := 0
	for off := s.From; off < s.To; off++ {
		if !x.Has(to(off, off+1)) {
			n++
		}
	}
	return n
}

// deliver lets go what x has, and answers it.
func (m *model) deliver(x *board.Board) []book.Rec {
	var went, left []book.Rec
	for _, r := range m.recs {
		if missing(x, r.Span) == 0 {
			went = append(went, r)
			continue
		}
		r.Span.From = max(r.Span.From, x.Una())
		left = append(left, r)
	}
	m.recs = left
	return went
}

// pipe is how many bytes are under way.
func (m *model) pipe(x *board.Board) int {
	n := 0
	for _, r := range m.recs {
		n += r.Out * missing(x, r.Span)
	}
	return n
}

// byFrom is the records by their From.
func (m *model) byFrom() []book.Rec {
	return slices.SortedFunc(slices.Values(m.recs), func(a, b book.Rec) int { return cmp.Compare(a.Span.From, b.Span.From) })
}

// mustTell fails if a call that tells a record tells another one than the first of these, or one where there is none.
func mustTell(t *testing.T, name string, l []book.Rec, got book.Rec, ok bool) {
	t.Helper()
	if ok != (len(l) > 0) || ok && got != l[0] || !ok && got != (book.Rec{}) {
		t.Fatalf("%s: %v, %t, of %v", name, got, ok, l)
	}
}

// mustBe fails if a book is another one than the model, but for what it asks a board.
func mustBe(t *testing.T, b *book.Book, m *model) {
	t.Helper()
	if b.Nxt() != m.nxt || b.Len() != len(m.recs) {
		t.Fatalf("Nxt %d, Len %d, not %d, %d", b.Nxt(), b.Len(), m.nxt, len(m.recs))
	}
	if got := slices.Collect(b.InOrder()); !slices.Equal(got, m.recs) {
		t.Fatalf("InOrder:\n%v, not\n%v", got, m.recs)
	}
	all := m.byFrom()
	if got := slices.Collect(b.All()); !slices.Equal(got, all) {
		t.Fatalf("All:\n%v, not\n%v", got, all)
	}
	r, ok := b.First()
	mustTell(t, "First", all, r, ok)
	r, ok = b.NextLost()
	mustTell(t, "NextLost", slices.DeleteFunc(slices.Clone(all), func(r book.Rec) bool { return !r.Lost }), r, ok)
	slices.Reverse(all)
	r, ok = b.Last()
	mustTell(t, "Last", all, r, ok)
}

// mustHave fails if a book has another Nxt, or other records by their Order, than these.
func mustHave(t *testing.T, b *book.Book, nxt int, l ...book.Rec) {
	t.Helper()
	mustBe(t, b, &model{nxt: nxt, recs: l})
}

// mustSend fails if Send tells something else.
func mustSend(t *testing.T, b *book.Book, s api.Span, now int, e api.Errno) {
	t.Helper()
	if got := b.Send(s, now); got != e {
		t.Fatalf("Send(%v, %d): %d, not %d", s, now, got, e)
	}
}

// mustAgain fails if Again tells something else.
func mustAgain(t *testing.T, b *book.Book, from, now int, want book.Rec, e api.Errno) {
	t.Helper()
	if r, got := b.Again(from, now); r != want || got != e {
		t.Fatalf("Again(%d, %d): %v, %d, not %v, %d", from, now, r, got, want, e)
	}
}

// mustLose fails if Lose tells something else.
func mustLose(t *testing.T, b *book.Book, from int, e api.Errno) {
	t.Helper()
	if got := b.Lose(from); got != e {
		t.Fatalf("Lose(%d): %d, not %d", from, got, e)
	}
}

// mustDeliver fails if Deliver tells something else.
func mustDeliver(t *testing.T, b *book.Book, x *board.Board, want ...book.Rec) {
	t.Helper()
	if got := b.Deliver(x); !slices.Equal(got, want) {
		t.Fatalf("Deliver: %v, not %v", got, want)
	}
}

// mustPipe fails if Pipe tells something else.
func mustPipe(t *testing.T, b *book.Book, x *board.Board, want int) {
	t.Helper()
	if got := b.Pipe(x); got != want {
		t.Fatalf("Pipe: %d, not %d", got, want)
	}
}

// at is a book from una on, in which segments were sent that end at these offsets, the first one at 1, each later by 1.
func at(t *testing.T, una int, ends ...int) *book.Book {
	t.Helper()
	b, e := book.New(una)
	if b == nil || e != api.OK {
		t.Fatalf("New(%d): %d", una, e)
	}
	for i, end := range ends {
		mustSend(t, b, to(b.Nxt(), end), i+1, api.OK)
	}
	return b
}

// has is a board from first on of which all up to nxt was sent, all below una acknowledged, and these spans sacked.
func has(t *testing.T, first, nxt, una int, sacked ...api.Span) *board.Board {
	t.Helper()
	x, e := board.New(first)
	if e != api.OK || x.Sent(nxt) != api.OK {
		t.Fatal(first, nxt, e)
	}
	for _, s := range sacked {
		if _, e := x.Sack(s); e != api.OK {
			t.Fatal(s, e)
		}
	}
	if _, e := x.Ack(una); e != api.OK {
		t.Fatal(una, e)
	}
	return x
}

func TestExamples(t *testing.T) {
	b := at(t, 0)
	mustSend(t, b, to(0, 10), 5, api.OK)
	mustSend(t, b, to(10, 20), 6, api.OK)
	mustLose(t, b, 0, api.OK)
	resent := again(lost(rec(0, 10, 5, 1)), 9, 3)
	mustAgain(t, b, 0, 9, resent, api.OK)
	mustPipe(t, b, has(t, 0, 20, 0), 20)
	mustHave(t, b, 20, rec(10, 20, 6, 2), resent)
}

// The calls of what the records stand in are none of a book's, nor of a record's.
func TestABookHasNoOtherCalls(t *testing.T) {
	var got []string
	for m := range reflect.TypeFor[*book.Book]().Methods() {
		got = append(got, m.Name)
	}
	slices.Sort(got)
	if want := []string{"Again", "All", "Clone", "Deliver", "First", "InOrder", "Last", "Len", "Lose", "LoseAll", "NextLost", "Nxt", "Pipe", "Send", "Spare"}; !slices.Equal(got, want) {
		t.Error(got)
	}
	if n := reflect.TypeFor[*book.Rec]().NumMethod(); n != 0 {
		t.Error(n)
	}
}

// P14.1
func TestNew(t *testing.T) {
	for _, una := range []int{0, 1, 10, 1 << 40, api.MaxOff - 1, api.MaxOff} {
		b := at(t, una)
		mustHave(t, b, una)
		mustPipe(t, b, has(t, 0, 10, 5), 0)
		mustDeliver(t, b, has(t, 0, 10, 10))
		mustAgain(t, b, una, 0, book.Rec{}, api.ErrNone)
		mustLose(t, b, una, api.ErrNone)
		if b.LoseAll() != 0 || b.Spare() != 0 {
			t.Error("something was lost")
		}
	}
	for _, una := range []int{-1, -10, math.MinInt, api.MaxOff + 1, math.MaxInt} {
		if b, e := book.New(una); b != nil || e != api.ErrRange {
			t.Errorf("New(%d): %v, %d", una, b, e)
		}
	}
}

// P14.1
func TestSend(t *testing.T) {
	b := at(t, 10)
	mustSend(t, b, to(10, 11), 0, api.OK)
	mustSend(t, b, to(11, 30), 0, api.OK)
	mustSend(t, b, to(30, 100_000), 7, api.OK)
	mustHave(t, b, 100_000, rec(10, 11, 0, 1), rec(11, 30, 0, 2), rec(30, 100_000, 7, 3))
	mustSend(t, b, to(100_000, 100_001), api.MaxOff, api.OK)
	mustSend(t, b, to(100_001, api.MaxOff), api.MaxOff, api.OK)
	mustHave(t, b, api.MaxOff, rec(10, 11, 0, 1), rec(11, 30, 0, 2), rec(30, 100_000, 7, 3), rec(100_000, 100_001, api.MaxOff, 4), rec(100_001, api.MaxOff, api.MaxOff, 5))
	// There is no offset left.
	for _, s := range []api.Span{to(api.MaxOff, api.MaxOff), to(api.MaxOff, api.MaxOff+1), to(api.MaxOff-1, api.MaxOff)} {
		mustSend(t, b, s, api.MaxOff, api.ErrRange)
	}
}

// P14.1: what is refused changes nothing, not even the Order of what goes next.
func TestSendRefused(t *testing.T) {
	b := at(t, 10, 20, 30)
	was := []book.Rec{rec(10, 20, 1, 1), rec(20, 30, 2, 2)}
	for _, s := range []api.Span{
		to(30, 30), to(30, 29), to(30, -1), to(30, api.MaxOff+1), to(30, math.MaxInt), to(30, math.MinInt), to(29, 35), to(31, 35), to(10, 20), to(20, 30), to(20, 35),
		to(0, 5), to(0, 0), to(-1, 5), to(5, 0), to(math.MinInt, math.MaxInt), to(math.MaxInt, math.MinInt), to(api.MaxOff, api.MaxOff), to(math.MaxInt, math.MaxInt),
	} {
		mustSend(t, b, s, 5, api.ErrRange)
		mustHave(t, b, 30, was...)
	}
	for _, now := range []int{1, 0, -1, math.MinInt, api.MaxOff + 1, math.MaxInt} {
		mustSend(t, b, to(30, 40), now, api.ErrRange)
		mustHave(t, b, 30, was...)
	}
	mustSend(t, b, to(30, 40), 2, api.OK)
	mustHave(t, b, 40, append(was, rec(30, 40, 2, 3))...)
	// The time is that of the last transmission, whether its record is there or not.
	mustAgain(t, b, 10, 6, again(was[0], 6, 4), api.OK)
	if len(b.Deliver(has(t, 10, 40, 40))) != 3 {
		t.Error("something is left")
	}
	mustSend(t, b, to(40, 50), 5, api.ErrRange)
	mustSend(t, b, to(40, 50), 6, api.OK)
	mustHave(t, b, 50, rec(40, 50, 6, 5))
	// 0 at first.
	mustSend(t, at(t, 0), to(0, 5), -1, api.ErrRange)
}

// P14.1
func TestAgain(t *testing.T) {
	b := at(t, 0, 10, 20, 30)
	first, second, third := rec(0, 10, 1, 1), rec(10, 20, 2, 2), rec(20, 30, 3, 3)
	first = again(first, 3, 4)
	mustAgain(t, b, 0, 3, first, api.OK)
	mustHave(t, b, 30, second, third, first)
	// One in the middle, the last one, and one that is lost.
	third = again(third, 5, 5)
	mustAgain(t, b, 20, 5, third, api.OK)
	mustHave(t, b, 30, second, first, third)
	third = again(third, 5, 6)
	mustAgain(t, b, 20, 5, third, api.OK)
	mustHave(t, b, 30, second, first, third)
	if third.Times != 3 || third.Out != 3 {
		t.Error(third)
	}
	mustLose(t, b, 20, api.OK)
	third = again(lost(third), api.MaxOff, 7)
	mustAgain(t, b, 20, api.MaxOff, third, api.OK)
	mustHave(t, b, 30, second, first, third)
	if third.Times != 4 || third.Out != 1 || third.Lost {
		t.Error(third)
	}
}

// P14.1: in the order that is named, and nothing is changed.
func TestAgainRefused(t *testing.T) {
	b := at(t, 5, 10, 20)
	mustLose(t, b, 10, api.OK)
	was := []book.Rec{rec(5, 10, 1, 1), lost(rec(10, 20, 2, 2))}
	for _, from := range []int{5, 10, 6, 20, -1} {
		for _, now := range []int{1, 0, -1, math.MinInt, api.MaxOff + 1, math.MaxInt} {
			mustAgain(t, b, from, now, book.Rec{}, api.ErrRange)
			mustHave(t, b, 20, was...)
		}
	}
	for _, from := range []int{0, 4, 6, 9, 11, 19, 20, -1, math.MinInt, api.MaxOff, math.MaxInt} {
		for _, now := range []int{2, 3, api.MaxOff} {
			mustAgain(t, b, from, now, book.Rec{}, api.ErrNone)
			mustHave(t, b, 20, was...)
		}
	}
	mustAgain(t, b, 5, 2, again(was[0], 2, 3), api.OK)
}

// P14.2
func TestLose(t *testing.T) {
	b := at(t, 5, 10, 20, 30)
	first, second, third := rec(5, 10, 1, 1), rec(10, 20, 2, 2), rec(20, 30, 3, 3)
	for _, from := range []int{0, 4, 6, 9, 11, 30, -1, math.MinInt, api.MaxOff, math.MaxInt} {
		mustLose(t, b, from, api.ErrNone)
		mustHave(t, b, 30, first, second, third)
	}
	mustLose(t, b, 10, api.OK)
	mustHave(t, b, 30, first, lost(second), third)
	mustLose(t, b, 10, api.ErrState)
	mustHave(t, b, 30, first, lost(second), third)
	// However often it was sent, none of it is under way.
	third = again(again(third, 4, 4), 4, 5)
	mustAgain(t, b, 20, 4, again(rec(20, 30, 3, 3), 4, 4), api.OK)
	mustAgain(t, b, 20, 4, third, api.OK)
	mustLose(t, b, 20, api.OK)
	mustHave(t, b, 30, first, lost(second), lost(third))
	if r, ok := b.Last(); !ok || r.Times != 3 || r.Out != 0 || !r.Lost {
		t.Error(r, ok)
	}
	// It can be lost again, once it went again.
	second = again(lost(second), 4, 6)
	mustAgain(t, b, 10, 4, second, api.OK)
	mustLose(t, b, 10, api.OK)
	mustHave(t, b, 30, first, lost(third), lost(second))
}

// P14.2
func TestLoseAllAndSpare(t *testing.T) {
	b := at(t, 0, 10, 20, 30)
	if n := b.Spare(); n != 0 {
		t.Error(n)
	}
	first, second, third := rec(0, 10, 1, 1), rec(10, 20, 2, 2), rec(20, 30, 3, 3)
	mustHave(t, b, 30, first, second, third)
	third = again(third, 9, 4)
	mustAgain(t, b, 20, 9, third, api.OK)
	mustLose(t, b, 10, api.OK)
	if n := b.LoseAll(); n != 2 {
		t.Error(n)
	}
	mustHave(t, b, 30, lost(first), lost(second), lost(third))
	if n := b.LoseAll(); n != 0 {
		t.Error(n)
	}
	second = again(lost(second), 9, 5)
	mustAgain(t, b, 10, 9, second, api.OK)
	second = again(second, 9, 6)
	mustAgain(t, b, 10, 9, second, api.OK)
	// One transmission of each that was lost is under way then; what was not lost stays as it is.
	if n := b.Spare(); n != 2 {
		t.Error(n)
	}
	third.Out = 1
	mustHave(t, b, 30, first, third, second)
	if r, _ := b.Last(); r.Times != 2 || r.Out != 1 || r.Lost {
		t.Error(r)
	}
	if second.Out != 2 {
		t.Error(second)
	}
	if n := b.Spare(); n != 0 {
		t.Error(n)
	}
}

// P14.3
func TestDeliver(t *testing.T) {
	first, second, third, fourth := rec(0, 10, 1, 1), rec(10, 20, 2, 2), rec(20, 30, 3, 3), rec(30, 40, 4, 4)
	for _, c := range []struct {
		x          *board.Board
		went, left []book.Rec
	}{
		{has(t, 0, 40, 0), nil, []book.Rec{first, second, third, fourth}},
		{has(t, 0, 40, 9), nil, []book.Rec{rec(9, 10, 1, 1), second, third, fourth}},
		{has(t, 0, 40, 10), []book.Rec{first}, []book.Rec{second, third, fourth}},
		{has(t, 0, 40, 11), []book.Rec{first}, []book.Rec{rec(11, 20, 2, 2), third, fourth}},
		{has(t, 0, 40, 39), []book.Rec{first, second, third}, []book.Rec{rec(39, 40, 4, 4)}},
		{has(t, 0, 40, 40), []book.Rec{first, second, third, fourth}, nil},
		{has(t, 0, 40, 0, to(10, 20)), []book.Rec{second}, []book.Rec{first, third, fourth}},
		{has(t, 0, 40, 0, to(5, 40)), []book.Rec{second, third, fourth}, []book.Rec{first}},
		{has(t, 0, 40, 0, to(10, 19), to(21, 30)), nil, []book.Rec{first, second, third, fourth}},
		{has(t, 0, 40, 0, to(10, 15), to(15, 20)), []book.Rec{second}, []book.Rec{first, third, fourth}},
		// What is partly below Una and sacked above has come; it is told as it was.
		{has(t, 0, 40, 15, to(15, 20)), []book.Rec{first, second}, []book.Rec{third, fourth}},
		{has(t, 0, 40, 15, to(16, 30)), []book.Rec{first, third}, []book.Rec{rec(15, 20, 2, 2), fourth}},
		{has(t, 0, 40, 15, to(15, 19), to(30, 40)), []book.Rec{first, fourth}, []book.Rec{rec(15, 20, 2, 2), third}},
		// A board of other offsets.
		{has(t, 50, 60, 50), []book.Rec{first, second, third, fourth}, nil},
		{has(t, 25, 25, 25), []book.Rec{first, second}, []book.Rec{rec(25, 30, 3, 3), fourth}},
		{has(t, 0, 5, 3), nil, []book.Rec{rec(3, 10, 1, 1), second, third, fourth}},
		{nil, nil, []book.Rec{first, second, third, fourth}},
	} {
		b := at(t, 0, 10, 20, 30, 40)
		mustDeliver(t, b, c.x, c.went...)
		mustHave(t, b, 40, c.left...)
		mustDeliver(t, b, c.x)
		mustHave(t, b, 40, c.left...)
	}
}

// P14.3: by their Order, not by their offsets; each as it was.
func TestDeliverTellsByOrder(t *testing.T) {
	b := at(t, 0, 10, 20, 30, 40)
	second, fourth := again(rec(10, 20, 2, 2), 5, 5), again(rec(30, 40, 4, 4), 5, 6)
	mustAgain(t, b, 10, 5, second, api.OK)
	mustAgain(t, b, 30, 5, fourth, api.OK)
	mustLose(t, b, 10, api.OK)
	mustDeliver(t, b, has(t, 0, 40, 0, to(0, 20), to(30, 40)), rec(0, 10, 1, 1), lost(second), fourth)
	mustHave(t, b, 40, rec(20, 30, 3, 3))
}

// P14.3: what is cut keeps all else, and is found by its new From alone.
func TestWhatIsCut(t *testing.T) {
	b := at(t, 0, 10, 20)
	mustLose(t, b, 0, api.OK)
	mustDeliver(t, b, has(t, 0, 20, 4))
	mustHave(t, b, 20, lost(rec(4, 10, 1, 1)), rec(10, 20, 2, 2))
	mustLose(t, b, 0, api.ErrNone)
	mustLose(t, b, 4, api.ErrState)
	mustAgain(t, b, 0, 5, book.Rec{}, api.ErrNone)
	cut := again(lost(rec(4, 10, 1, 1)), 5, 3)
	mustAgain(t, b, 4, 5, cut, api.OK)
	mustPipe(t, b, nil, 16)
	// Una may be less for another board, which brings nothing back.
	mustDeliver(t, b, has(t, 0, 20, 2))
	mustHave(t, b, 20, rec(10, 20, 2, 2), cut)
	mustDeliver(t, b, has(t, 0, 20, 7))
	cut.Span.From = 7
	mustHave(t, b, 20, rec(10, 20, 2, 2), cut)
	mustDeliver(t, b, has(t, 0, 20, 9, to(9, 10)), cut)
	mustHave(t, b, 20, rec(10, 20, 2, 2))
}

// P14.4
func TestPipe(t *testing.T) {
	b := at(t, 0, 10, 20, 30)
	for _, c := range []struct {
		x    *board.Board
		pipe int
	}{
		{nil, 30}, {has(t, 0, 0, 0), 30}, {has(t, 0, 30, 0), 30}, {has(t, 0, 30, 1), 29}, {has(t, 0, 30, 15), 15}, {has(t, 0, 30, 30), 0}, {has(t, 50, 50, 50), 0},
		{has(t, 0, 30, 0, to(5, 7)), 28}, {has(t, 0, 30, 0, to(5, 25)), 10}, {has(t, 0, 30, 0, to(5, 8), to(9, 11), to(29, 30)), 24}, {has(t, 0, 30, 4, to(2, 8)), 22}, {has(t, 0, 30, 0, to(0, 30)), 0},
	} {
		mustPipe(t, b, c.x, c.pipe)
		mustHave(t, b, 30, rec(0, 10, 1, 1), rec(10, 20, 2, 2), rec(20, 30, 3, 3))
	}
	// As often as it is under way.
	mustAgain(t, b, 10, 3, again(rec(10, 20, 2, 2), 3, 4), api.OK)
	mustPipe(t, b, nil, 40)
	mustPipe(t, b, has(t, 0, 30, 0, to(12, 17)), 30)
	mustPipe(t, b, has(t, 0, 30, 12, to(15, 17)), 22)
	mustLose(t, b, 10, api.OK)
	mustPipe(t, b, nil, 20)
	mustPipe(t, b, has(t, 0, 30, 0, to(12, 17)), 20)
}

// P14.4: the ends of the numbers.
func TestPipeOfGreatSpans(t *testing.T) {
	b := at(t, 0, 5, api.MaxOff-1, api.MaxOff)
	mustPipe(t, b, nil, api.MaxOff)
	mustPipe(t, b, has(t, 3, 3, 3), api.MaxOff-3)
	mustPipe(t, b, has(t, api.MaxOff-1, api.MaxOff, api.MaxOff-1), 1)
	mustAgain(t, b, 5, 9, again(rec(5, api.MaxOff-1, 2, 2), 9, 4), api.OK)
	mustPipe(t, b, nil, 2*(api.MaxOff-6)+6)
	// Just what an int can tell, and one more.
	b = at(t, 0, 1, api.MaxOff)
	mustAgain(t, b, 1, 9, again(rec(1, api.MaxOff, 2, 2), 9, 3), api.OK)
	mustPipe(t, b, nil, math.MaxInt)
	mustAgain(t, b, 0, 9, again(rec(0, 1, 1, 1), 9, 4), api.OK)
	mustPipe(t, b, nil, math.MaxInt)
	mustPipe(t, b, has(t, 0, 5, 1), math.MaxInt-1)
	mustAgain(t, b, 1, 9, again(again(rec(1, api.MaxOff, 2, 2), 9, 3), 9, 5), api.OK)
	mustPipe(t, b, nil, math.MaxInt)
	mustPipe(t, b, has(t, api.MaxOff-7, api.MaxOff, api.MaxOff-7), 21)
	if b.LoseAll(); b.Pipe(nil) != 0 {
		t.Error("something is under way")
	}
}

// P14.5: what is gone through ends as soon as nobody wants more, and can be gone through again.
func TestGoneThrough(t *testing.T) {
	b := at(t, 0, 10, 20, 30, 40)
	mustAgain(t, b, 0, 9, again(rec(0, 10, 1, 1), 9, 5), api.OK)
	for n := 1; n <= 4; n++ {
		for _, l := range []iter.Seq[book.Rec]{b.All(), b.InOrder()} {
			whole := slices.Collect(l)
			var got []book.Rec
			for r := range l {
				if got = append(got, r); len(got) == n {
					break
				}
			}
			if len(whole) != 4 || !slices.Equal(got, whole[:n]) {
				t.Errorf("%v, of %v", got, whole)
			}
		}
	}
}

// P14.5, and P1: nothing is promised of what is changed while it is gone through, but that it ends.
func TestChangedWhileGoneThrough(t *testing.T) {
	changes := []func(b *book.Book, r book.Rec){
		func(b *book.Book, r book.Rec) { b.Again(r.Span.From, 9) },
		func(b *book.Book, r book.Rec) { b.Again(r.Span.To, 9) },
		func(b *book.Book, r book.Rec) { b.Send(to(b.Nxt(), b.Nxt()+10), 9) },
		func(b *book.Book, r book.Rec) { b.Deliver(has(t, 0, b.Nxt(), r.Span.To)) },
		func(b *book.Book, r book.Rec) { b.Deliver(has(t, 0, b.Nxt(), b.Nxt())) },
		func(b *book.Book, r book.Rec) { b.Deliver(has(t, 0, b.Nxt(), 0, to(0, r.Span.To))) },
		func(b *book.Book, r book.Rec) { b.LoseAll() },
	}
	for _, change := range changes {
		for _, walk := range []func(b *book.Book) iter.Seq[book.Rec]{(*book.Book).All, (*book.Book).InOrder} {
			b := at(t, 0, 10, 20, 30, 40)
			n := 0
			for r := range walk(b) {
				if change(b, r); n > 10 {
					t.Fatal("it does not end")
				}
				n++
			}
			if len(slices.Collect(b.All())) != b.Len() || len(slices.Collect(b.InOrder())) != b.Len() {
				t.Error("the tree and the list have not the same")
			}
		}
	}
}

// pair is a book with its model, and a board on which what it sends comes.
type pair struct {
	b *book.Book
	m *model
	x *board.Board
}

// newPair is a pair from an offset on.
func newPair(t *testing.T, base int) *pair {
	t.Helper()
	return &pair{at(t, base), &model{nxt: base}, has(t, base, base, base)}
}

// clone is the same pair, going its own way.
func (p *pair) clone() *pair {
	return &pair{p.b.Clone(), p.m.clone(), p.x.Clone()}
}

// length is how many offsets x has not of a record.
func (p *pair) length(r book.Rec) int {
	return missing(p.x, r.Span)
}

// comes lets something come on the board, which the book is not told.
func (p *pair) comes(rnd *rand.Rand) {
	una, flight := p.x.Una(), p.x.Nxt()-p.x.Una()
	if rnd.Intn(3) == 0 {
		p.x.Ack(una + rnd.Intn(flight/3+1))
		return
	}
	from := una + rnd.Intn(flight+1)
	p.x.Sack(to(from, min(from+1+rnd.Intn(20), p.x.Nxt())))
}

// send sends a new segment; P14.7: it adds its bytes to the pipe.
func (p *pair) send(t *testing.T, rnd *rand.Rand) {
	t.Helper()
	now, s := p.m.now+rnd.Intn(3), to(p.m.nxt, p.m.nxt+1+rnd.Intn(12))
	if s.To > api.MaxOff {
		mustSend(t, p.b, s, now, api.ErrRange)
		return
	}
	if p.x.Sent(s.To) != api.OK {
		return
	}
	was := p.b.Pipe(p.x)
	p.m.send(s.To-s.From, now)
	mustSend(t, p.b, s, now, api.OK)
	mustPipe(t, p.b, p.x, was+s.To-s.From)
}

// one does something to one record; P14.7: what it changes of the pipe is told by that record alone.
func (p *pair) one(t *testing.T, rnd *rand.Rand) {
	t.Helper()
	if len(p.m.recs) == 0 {
		return
	}
	i, was := rnd.Intn(len(p.m.recs)), p.b.Pipe(p.x)
	r, now := p.m.recs[i], p.m.now+rnd.Intn(3)
	switch {
	case rnd.Intn(3) == 0:
		mustAgain(t, p.b, r.Span.From, now, p.m.again(i, now), api.OK)
		mustPipe(t, p.b, p.x, was+p.length(r))
	case r.Lost:
		mustLose(t, p.b, r.Span.From, api.ErrState)
		mustPipe(t, p.b, p.x, was)
	default:
		p.m.recs[i] = lost(r)
		mustLose(t, p.b, r.Span.From, api.OK)
		mustPipe(t, p.b, p.x, was-r.Out*p.length(r))
	}
}

// deliver lets go what came, and fails if something stays that has come (P14.8).
func (p *pair) deliver(t *testing.T) {
	t.Helper()
	mustDeliver(t, p.b, p.x, p.m.deliver(p.x)...)
	for r := range p.b.All() {
		if p.x.Has(r.Span) || r.Span.From < p.x.Una() {
			t.Fatalf("%v is left", r)
		}
	}
}

// walk does one thing to both, and fails if they answer otherwise.
func (p *pair) walk(t *testing.T, rnd *rand.Rand) {
	t.Helper()
	switch n := rnd.Intn(40); {
	case n == 0:
		if got, want := p.b.LoseAll(), p.m.loseAll(); got != want {
			t.Fatalf("LoseAll: %d, not %d", got, want)
		}
		mustPipe(t, p.b, p.x, 0)
	case n == 1:
		if got, want := p.b.Spare(), p.m.spare(); got != want {
			t.Fatalf("Spare: %d, not %d", got, want)
		}
	case n < 16:
		p.send(t, rnd)
	case n < 30:
		p.one(t, rnd)
	case n < 35:
		p.comes(rnd)
	default:
		p.deliver(t)
	}
	mustBe(t, p.b, p.m)
	mustPipe(t, p.b, p.x, p.m.pipe(p.x))
}

// mustFollow fails if what the chapter says that follows does not (P14.6).
func mustFollow(t *testing.T, b *book.Book) {
	t.Helper()
	sorted := slices.SortedFunc(b.InOrder(), func(r, s book.Rec) int { return r.Span.From - s.Span.From })
	if !slices.Equal(slices.Collect(b.All()), sorted) {
		t.Fatal("All is by From not what InOrder is by Order")
	}
	for i, r := range sorted {
		if r.Span.From >= r.Span.To || i > 0 && sorted[i-1].Span.To > r.Span.From || r.Lost != (r.Out == 0) || r.Out > r.Times {
			t.Fatal(sorted)
		}
	}
	was := book.Rec{}
	for r := range b.InOrder() {
		if r.Order <= was.Order || r.Sent < was.Sent {
			t.Fatalf("%v is behind %v", r, was)
		}
		was = r
	}
}

// P14.1 to P14.8
func TestAnyWay(t *testing.T) {
	rnd := rand.New(rand.NewSource(1))
	for _, base := range []int{0, 7, 1 << 40, api.MaxOff - 200} {
		for range 25 {
			p := newPair(t, base)
			for range 250 {
				p.walk(t, rnd)
				mustFollow(t, p.b)
			}
		}
	}
}

// P14.5
func TestClone(t *testing.T) {
	rnd := rand.New(rand.NewSource(2))
	pairs := []*pair{newPair(t, 0)}
	for range 800 {
		p := pairs[rnd.Intn(len(pairs))]
		if len(pairs) < 5 && rnd.Intn(40) == 0 {
			pairs = append(pairs, p.clone())
		}
		p.walk(t, rnd)
		for _, p := range pairs {
			mustBe(t, p.b, p.m)
		}
	}
	if len(pairs) < 5 {
		t.Error("too few clones")
	}
}

// P14.5: a clone has the Order and the time of what went last, too, of which no record may be left.
func TestACloneOfNoRecords(t *testing.T) {
	b := at(t, 0, 10, 20)
	b.Deliver(has(t, 0, 20, 20))
	c := b.Clone()
	mustHave(t, c, 20)
	mustSend(t, c, to(20, 30), 1, api.ErrRange)
	mustSend(t, c, to(20, 30), 2, api.OK)
	mustHave(t, c, 30, rec(20, 30, 2, 3))
	mustHave(t, b, 20)
}

// What is told is nobody else's: it may be written to, and the book stays as it is.
func TestWhatWentIsNew(t *testing.T) {
	b := at(t, 0, 10, 20, 30)
	went := b.Deliver(has(t, 0, 30, 20))
	for i := range went {
		went[i] = book.Rec{}
	}
	for r := range b.All() {
		r.Lost, r.Span = true, to(1, 2)
	}
	mustHave(t, b, 30, rec(20, 30, 3, 3))
	x := has(t, 0, 30, 5, to(20, 30))
	was := x.Clone()
	if b.Pipe(x); len(b.Deliver(x)) != 1 || !x.Same(was) {
		t.Error("the board is changed")
	}
}

// P14.1 to P14.5: of nil
func TestOfNil(t *testing.T) {
	var b *book.Book
	x := has(t, 0, 20, 10)
	for _, n := range []int{0, 5, -5, math.MinInt, math.MaxInt} {
		mustSend(t, b, to(0, n), 0, api.ErrNil)
		mustSend(t, b, to(0, 5), n, api.ErrNil)
		mustAgain(t, b, n, 0, book.Rec{}, api.ErrNil)
		mustAgain(t, b, 0, n, book.Rec{}, api.ErrNil)
		mustLose(t, b, n, api.ErrNil)
	}
	mustDeliver(t, b, x)
	mustDeliver(t, b, nil)
	mustPipe(t, b, x, 0)
	mustPipe(t, b, nil, 0)
	mustHave(t, b, 0)
	if b.LoseAll() != 0 || b.Spare() != 0 || b.Clone() != nil {
		t.Error("something is there")
	}
}

// Nothing is promised of what the zero value tells, but that each call ends and does not panic.
func TestTheZeroValue(t *testing.T) {
	var b book.Book
	for i := range 3 {
		b.Send(to(b.Nxt(), b.Nxt()+5), i)
		b.Again(0, i)
		b.Lose(0)
		b.LoseAll()
		b.Spare()
		b.Deliver(has(t, 0, 20, 7))
		b.Pipe(nil)
		b.First()
		b.Last()
		b.NextLost()
		b.Len()
		b.Clone().Send(to(0, 5), i)
		for _, l := range []iter.Seq[book.Rec]{b.All(), b.InOrder()} {
			for range l {
			}
		}
	}
}

// A long way: many records, each of which goes again, in another order, and comes.
func TestManyRecords(t *testing.T) {
	const n = 20_000
	rnd := rand.New(rand.NewSource(3))
	b, x := at(t, 0), has(t, 0, n, 0)
	for i := range n {
		mustSend(t, b, to(i, i+1), i, api.OK)
	}
	order := rnd.Perm(n)
	for i, from := range order {
		r := again(rec(from, from+1, from, from+1), n, n+1+i)
		mustAgain(t, b, from, n, r, api.OK)
	}
	mustPipe(t, b, x, 2*n)
	i := 0
	for r := range b.InOrder() {
		if r.Span.From != order[i] {
			t.Fatal(r, order[i])
		}
		i++
	}
	if b.LoseAll() != n || b.Spare() != n || b.Len() != n {
		t.Error(b.Len())
	}
	mustPipe(t, b, x, n)
	if _, e := x.Ack(n / 2); e != api.OK || len(b.Deliver(x)) != n/2 || b.Len() != n-n/2 {
		t.Error(e, b.Len())
	}
}
