package reply_test

import (
	"bytes"
	"math"
	"reflect"
	"slices"
	"testing"

	"undertow/api"
	"undertow/reply"
	"undertow/segment"
	"undertow/sum"
)

// The calls with the types that the chapter lists.
var (
	_ func(uint32, int) (*reply.Reply, api.Errno)    = reply.New
	_ func(*reply.Reply, []byte) ([]byte, api.Errno) = (*reply.Reply).Take
	_ func(*reply.Reply) int                         = (*reply.Reply).Next
	_ func(*reply.Reply) []byte                      = (*reply.Reply).Text
	_ func(*reply.Reply) []api.Span                  = (*reply.Reply).Above
	_ func(*reply.Reply) *reply.Reply                = (*reply.Reply).Clone
)

// What the calls of a receiver are made of are none of its own.
func TestAReceiverHasNoOtherCalls(t *testing.T) {
	var got []string
	for m := range reflect.TypeFor[*reply.Reply]().Methods() {
		got = append(got, m.Name)
	}
	slices.Sort(got)
	if want := []string{"Above", "Clone", "Next", "Take", "Text"}; !slices.Equal(got, want) {
		t.Error(got)
	}
	for _, f := range reflect.VisibleFields(reflect.TypeFor[reply.Reply]()) {
		if f.IsExported() {
			t.Errorf("field %s", f.Name)
		}
	}
}

const half = 1 << 31

// firsts are first numbers, some of which go round soon.
func firsts() []uint32 {
	return []uint32{0, 7, half - 15, half, 1<<32 - 1, 1<<32 - 35, 1<<32 - 1000}
}

// to is a span.
func to(from, to int) api.Span {
	return api.Span{From: from, To: to}
}

// text is the bytes of a span's offsets; those that stand near each other are unlike each other.
func text(s api.Span) []byte {
	var p []byte
	for off := s.From; off < s.To; off++ {
		p = append(p, byte(off%251+1))
	}
	return p
}

// raw is a segment's bytes.
func raw(t *testing.T, s api.Segment) []byte {
	t.Helper()
	b, e := segment.Encode(s)
	if e != api.OK {
		t.Fatalf("Encode(%+v): %d", s, e)
	}
	return b
}

// data is the bytes of a SegData that has the text of a span.
func data(t *testing.T, first uint32, s api.Span, opt api.Options) []byte {
	t.Helper()
	return raw(t, api.Segment{Kind: api.SegData, Num: first + uint32(s.From), Opt: opt, Body: text(s)})
}

// stamp is options with a time.
func stamp(val, ecr uint32) api.Options {
	return api.Options{Ts: true, Val: val, Ecr: ecr}
}

// ack is an answer: up to where all has come, options, and the spans of its blocks.
func ack(first uint32, next int, opt api.Options, blocks ...api.Span) api.Segment {
	s := api.Segment{Kind: api.SegAck, Num: first + uint32(next), Opt: opt}
	for _, b := range blocks {
		s.Opt.Blocks = append(s.Opt.Blocks, api.Block{Left: first + uint32(b.From), Right: first + uint32(b.To)})
	}
	return s
}

// of is a receiver that has nothing.
func of(t *testing.T, first uint32, room int) *reply.Reply {
	t.Helper()
	r, e := reply.New(first, room)
	if r == nil || e != api.OK {
		t.Fatalf("New(%d, %d): %v, %d", first, room, r, e)
	}
	return r
}

// with is a receiver with a first number that has taken the text of these spans.
func with(t *testing.T, first uint32, room int, l ...api.Span) *reply.Reply {
	t.Helper()
	r := of(t, first, room)
	for _, s := range l {
		if _, e := r.Take(data(t, first, s, api.Options{})); e != api.OK {
			t.Fatalf("Take of %v: %d", s, e)
		}
	}
	return r
}

// mustAnswer fails if what a segment is answered is something else.
func mustAnswer(t *testing.T, r *reply.Reply, b []byte, want api.Segment) {
	t.Helper()
	got, e := r.Take(b)
	if e != api.OK || !bytes.Equal(got, raw(t, want)) {
		s, _ := segment.Decode(got)
		t.Fatalf("Take: %+v, %d, not %+v", s, e, want)
	}
}

// mustTell fails if a segment of a span, without options, is answered by another number or other blocks.
func mustTell(t *testing.T, r *reply.Reply, first uint32, s api.Span, next int, blocks ...api.Span) {
	t.Helper()
	mustAnswer(t, r, data(t, first, s, api.Options{}), ack(first, next, api.Options{}, blocks...))
}

// mustRefuse fails if something is answered, or another error.
func mustRefuse(t *testing.T, r *reply.Reply, b []byte, want api.Errno) {
	t.Helper()
	if got, e := r.Take(b); len(got) > 0 || e != want {
		t.Fatalf("Take of %d bytes: %v, %d, not %d", len(b), got, e, want)
	}
}

// mustHear fails if a receiver has another part of the text in order, or other spans above it, or these in another order.
func mustHear(t *testing.T, r *reply.Reply, next int, above ...api.Span) {
	t.Helper()
	if r.Next() != next || !bytes.Equal(r.Text(), text(to(0, next))) {
		t.Fatalf("Next is %d, Text %v, not %d", r.Next(), r.Text(), next)
	}
	if got := r.Above(); !slices.Equal(got, above) {
		t.Fatalf("Above: %v, not %v", got, above)
	}
}

// P24.1
func TestNew(t *testing.T) {
	for _, c := range []struct {
		room int
		want api.Errno
	}{
		{1, api.OK}, {2, api.OK}, {1000, api.OK}, {api.MaxBuffer - 1, api.OK}, {api.MaxBuffer, api.OK},
		{0, api.ErrArg}, {-1, api.ErrArg}, {api.MaxBuffer + 1, api.ErrArg}, {1<<32 + 5, api.ErrArg}, {math.MaxInt, api.ErrArg}, {math.MinInt, api.ErrArg},
	} {
		for _, first := range firsts() {
			r, e := reply.New(first, c.room)
			if e != c.want || (r == nil) != (e != api.OK) {
				t.Errorf("New(%d, %d): %v, %d, not %d", first, c.room, r, e, c.want)
			}
			if r != nil {
				mustHear(t, r, 0)
			}
		}
	}
}

// P24.1: the example of the chapter.
func TestTheExample(t *testing.T) {
	for _, first := range firsts() {
		r := of(t, first, 100)
		mustTell(t, r, first, to(10, 20), 0, to(10, 20))
		mustTell(t, r, first, to(30, 40), 0, to(30, 40), to(10, 20))
		mustTell(t, r, first, to(10, 20), 0, to(10, 20), to(10, 20), to(30, 40))
		mustHear(t, r, 0, to(10, 20), to(30, 40))
	}
}

// P24.1: the bytes of answers, written out.
func TestTheBytesOfAnswers(t *testing.T) {
	r := of(t, 2, 100)
	for _, c := range []struct {
		from int
		body []byte
		opt  api.Options
		want []byte
	}{
		// The number 5, as the document has it.
		{0, []byte{1, 2, 3}, api.Options{}, []byte{2, 0, 253, 250, 0, 0, 0, 5}},
		// Of a time the one that came goes back.
		{3, []byte{4}, stamp(258, 9), []byte{2, 3, 244, 234, 0, 0, 0, 6, 8, 10, 0, 0, 0, 0, 0, 0, 1, 2, 0, 0}},
		// A block of 5 to 6, as numbers 7 to 8.
		{5, []byte{6}, api.Options{}, []byte{2, 3, 248, 221, 0, 0, 0, 6, 5, 10, 0, 0, 0, 7, 0, 0, 0, 8, 0, 0}},
	} {
		got, e := r.Take(raw(t, api.Segment{Kind: api.SegData, Num: uint32(2 + c.from), Opt: c.opt, Body: c.body}))
		if e != api.OK || !bytes.Equal(got, c.want) {
			t.Errorf("%d: %v, %d, not %v", c.from, got, e, c.want)
		}
	}
	if got := r.Text(); !bytes.Equal(got, []byte{1, 2, 3, 4}) {
		t.Error(got)
	}
}

// P24.1: what is no segment, with the errors that its bytes have.
func TestWhatIsNoSegment(t *testing.T) {
	fine := data(t, 5, to(3, 6), stamp(1, 2))
	turned := slices.Clone(fine)
	turned[len(turned)-1] ^= 4
	// kind is the bytes of a segment, turned into one of another kind, with its sum.
	kind := func(k byte) []byte {
		b := data(t, 5, to(3, 6), api.Options{})
		b[0], b[2], b[3] = k, 0, 0
		check := sum.Check(b)
		b[2], b[3] = byte(check>>8), byte(check)
		return b
	}
	r := with(t, 5, 100, to(0, 2), to(8, 9))
	for _, c := range []struct {
		b    []byte
		want api.Errno
	}{
		{nil, api.ErrShort}, {[]byte{}, api.ErrShort}, {fine[:7], api.ErrShort}, {make([]byte, 2097), api.ErrLong}, {make([]byte, 5000), api.ErrLong}, {make([]byte, 8), api.ErrSum},
		{turned, api.ErrSum}, {fine[:len(fine)-1], api.ErrSum}, {kind(0), api.ErrKind}, {kind(3), api.ErrKind}, {kind(200), api.ErrKind},
		// A SegAck that is none by its bytes: that is told first.
		{kind(api.SegAck), api.ErrForm},
		{slices.Concat(raw(t, ack(5, 2, api.Options{})), []byte{1}), api.ErrSum},
	} {
		if _, e := segment.Decode(c.b); e != c.want {
			t.Fatalf("Decode(%v): %d, not %d", c.b, e, c.want)
		}
		mustRefuse(t, r, c.b, c.want)
		mustHear(t, r, 2, to(8, 9))
	}
}

// P24.1: an acknowledgement is none that it answers, whatever it says.
func TestOfAnAcknowledgement(t *testing.T) {
	r := with(t, 5, 100, to(0, 2), to(8, 9), to(4, 5))
	for _, s := range []api.Segment{ack(5, 0, api.Options{}), ack(5, 2, api.Options{}), ack(5, 2, stamp(1, 2), to(8, 9)), ack(5, 8, api.Options{}, to(8, 9)), ack(5, -1, api.Options{}), ack(5, 1000, api.Options{}), ack(5, half, api.Options{})} {
		mustRefuse(t, r, raw(t, s), api.ErrKind)
		mustHear(t, r, 2, to(4, 5), to(8, 9))
	}
}

// P24.1: what the receiver refuses is not answered, and nothing of it is kept.
func TestWhatTheReceiverRefuses(t *testing.T) {
	for _, first := range firsts() {
		r := with(t, first, 20, to(0, 2), to(8, 9), to(4, 5))
		for _, opt := range []api.Options{{}, stamp(3, 4)} {
			for _, s := range []api.Span{to(22, 23), to(2, 23), to(21, 24), to(500, 510), to(0, 23)} {
				mustRefuse(t, r, data(t, first, s, opt), api.ErrAhead)
				mustHear(t, r, 2, to(4, 5), to(8, 9))
			}
			for _, back := range []uint32{1, 5, 1 << 20, half - 2} {
				mustRefuse(t, r, raw(t, api.Segment{Kind: api.SegData, Num: first - back, Opt: opt, Body: []byte{1, 2}}), api.ErrOld)
				mustHear(t, r, 2, to(4, 5), to(8, 9))
			}
		}
		mustTell(t, r, first, to(21, 22), 2, to(21, 22), to(4, 5), to(8, 9))
	}
}

// P24.1: there are 4096 spans at most; those of the receiver are told all.
func TestFull(t *testing.T) {
	r := of(t, 3, api.MaxBuffer)
	var l []api.Span
	for i := range api.MaxRuns {
		s := to(2+4*i, 4+4*i)
		if _, e := r.Take(data(t, 3, s, api.Options{})); e != api.OK {
			t.Fatal(s, e)
		}
		l = append(l, s)
	}
	slices.Reverse(l)
	mustHear(t, r, 0, l...)
	end := l[0].To
	mustRefuse(t, r, data(t, 3, to(end+1, end+2), api.Options{}), api.ErrFull)
	mustRefuse(t, r, data(t, 3, to(0, 1), api.Options{}), api.ErrFull)
	mustHear(t, r, 0, l...)
	// One that is told once more, and one that joins two, go ahead of all others.
	mustTell(t, r, 3, l[2], 0, l[2], l[2], l[0], l[1])
	last := len(l) - 1
	mustTell(t, r, 3, to(4, 6), 0, to(2, 8), l[2], l[0], l[1])
	l = slices.Concat([]api.Span{to(2, 8), l[2], l[0], l[1]}, l[3:last-1])
	mustHear(t, r, 0, l...)
	mustTell(t, r, 3, to(0, 2), 8, l[1], l[2], l[3], l[4])
	mustHear(t, r, 8, l[1:]...)
}

// P24.1: a time goes back, beside three blocks; there are four without it.
func TestTimes(t *testing.T) {
	for _, first := range firsts() {
		for _, val := range []uint32{0, 1, half, 1<<32 - 1} {
			for _, ecr := range []uint32{0, 77, 1<<32 - 1} {
				r := with(t, first, 100, to(2, 3), to(4, 5), to(6, 7), to(8, 9))
				four := []api.Span{to(10, 11), to(8, 9), to(6, 7), to(4, 5)}
				mustAnswer(t, r.Clone(), data(t, first, to(10, 11), stamp(val, ecr)), ack(first, 0, stamp(0, val), four[:3]...))
				mustAnswer(t, r.Clone(), data(t, first, to(10, 11), api.Options{}), ack(first, 0, api.Options{}, four...))
				// What came once more is one of them.
				mustAnswer(t, r.Clone(), data(t, first, to(6, 7), stamp(val, ecr)), ack(first, 0, stamp(0, val), to(6, 7), to(6, 7), to(8, 9)))
				mustAnswer(t, r.Clone(), data(t, first, to(6, 7), api.Options{}), ack(first, 0, api.Options{}, to(6, 7), to(6, 7), to(8, 9), to(4, 5)))
				mustAnswer(t, r.Clone(), data(t, first, to(0, 1), stamp(val, ecr)), ack(first, 1, stamp(0, val), to(8, 9), to(6, 7), to(4, 5)))
				mustAnswer(t, r.Clone(), data(t, first, to(0, 3), stamp(val, ecr)), ack(first, 3, stamp(0, val), to(2, 3), to(8, 9), to(6, 7)))
				mustAnswer(t, r.Clone(), data(t, first, to(0, 20), stamp(val, ecr)), ack(first, 20, stamp(0, val), to(2, 3)))
				mustAnswer(t, r.Clone(), data(t, first, to(1, 4), stamp(val, ecr)), ack(first, 0, stamp(0, val), to(2, 3), to(1, 5), to(8, 9)))
			}
		}
	}
	// It is told anew each time: of a segment without one none goes back.
	r := of(t, 0, 100)
	mustAnswer(t, r, data(t, 0, to(0, 1), stamp(5, 6)), ack(0, 1, stamp(0, 5)))
	mustAnswer(t, r, data(t, 0, to(1, 2), api.Options{}), ack(0, 2, api.Options{}))
	mustAnswer(t, r, data(t, 0, to(2, 3), stamp(0, 0)), ack(0, 3, stamp(0, 0)))
}

// P24.1: nothing else that a segment says goes back.
func TestOtherOptions(t *testing.T) {
	all := api.Options{Mss: 1460, Permit: true, HasScale: true, Scale: 7}
	r := of(t, 9, 100)
	mustAnswer(t, r, data(t, 9, to(0, 3), all), ack(9, 3, api.Options{}))
	mustAnswer(t, r, data(t, 9, to(5, 6), all), ack(9, 3, api.Options{}, to(5, 6)))
	all.Ts, all.Val, all.Ecr = true, 11, 12
	mustAnswer(t, r, data(t, 9, to(0, 3), all), ack(9, 3, stamp(0, 11), to(0, 3), to(5, 6)))
	mustAnswer(t, r, data(t, 9, to(8, 9), all), ack(9, 3, stamp(0, 11), to(8, 9), to(5, 6)))
}

// P24.1, P24.2: the spans above, each ahead of those to which a segment came longer ago.
func TestTheOrder(t *testing.T) {
	r := of(t, 1<<32-25, 100)
	for _, c := range []struct {
		s     api.Span
		next  int
		dup   []api.Span
		above []api.Span
	}{
		{to(0, 5), 5, nil, nil},
		{to(30, 40), 5, nil, []api.Span{to(30, 40)}},
		{to(10, 15), 5, nil, []api.Span{to(10, 15), to(30, 40)}},
		{to(50, 55), 5, nil, []api.Span{to(50, 55), to(10, 15), to(30, 40)}},
		// What comes below the number leaves them as they are, be it new or not.
		{to(0, 3), 5, []api.Span{to(0, 3)}, []api.Span{to(50, 55), to(10, 15), to(30, 40)}},
		{to(5, 7), 7, nil, []api.Span{to(50, 55), to(10, 15), to(30, 40)}},
		{to(3, 8), 8, []api.Span{to(3, 7)}, []api.Span{to(50, 55), to(10, 15), to(30, 40)}},
		// A part of one, all of which was had, sets it ahead of the others.
		{to(33, 34), 8, []api.Span{to(33, 34)}, []api.Span{to(30, 40), to(50, 55), to(10, 15)}},
		{to(33, 40), 8, []api.Span{to(33, 40)}, []api.Span{to(30, 40), to(50, 55), to(10, 15)}},
		// One that grows, above and below.
		{to(15, 16), 8, nil, []api.Span{to(10, 16), to(30, 40), to(50, 55)}},
		{to(9, 12), 8, []api.Span{to(10, 12)}, []api.Span{to(9, 16), to(30, 40), to(50, 55)}},
		// Two that become one.
		{to(38, 52), 8, []api.Span{to(38, 40)}, []api.Span{to(30, 55), to(9, 16)}},
		{to(60, 70), 8, nil, []api.Span{to(60, 70), to(30, 55), to(9, 16)}},
		{to(80, 90), 8, nil, []api.Span{to(80, 90), to(60, 70), to(30, 55), to(9, 16)}},
		{to(20, 22), 8, nil, []api.Span{to(20, 22), to(80, 90), to(60, 70), to(30, 55), to(9, 16)}},
		{to(9, 10), 8, []api.Span{to(9, 10)}, []api.Span{to(9, 16), to(20, 22), to(80, 90), to(60, 70), to(30, 55)}},
		// Three that become one, of which one stood ahead, one in the midst.
		{to(17, 62), 8, []api.Span{to(20, 22)}, []api.Span{to(17, 70), to(9, 16), to(80, 90)}},
		{to(75, 76), 8, nil, []api.Span{to(75, 76), to(17, 70), to(9, 16), to(80, 90)}},
		// Those that the number passes are none any more.
		{to(8, 9), 16, nil, []api.Span{to(75, 76), to(17, 70), to(80, 90)}},
		{to(74, 75), 16, nil, []api.Span{to(74, 76), to(17, 70), to(80, 90)}},
		{to(10, 20), 70, []api.Span{to(10, 16)}, []api.Span{to(74, 76), to(80, 90)}},
		{to(69, 80), 90, []api.Span{to(69, 70)}, nil},
		{to(91, 92), 90, nil, []api.Span{to(91, 92)}},
		{to(0, 91), 92, []api.Span{to(0, 90)}, nil},
	} {
		blocks := slices.Concat(c.dup, c.above)
		mustTell(t, r, 1<<32-25, c.s, c.next, blocks[:min(len(blocks), 4)]...)
		mustHear(t, r, c.next, c.above...)
	}
}

// P24.2: of nil
func TestOfNil(t *testing.T) {
	var r *reply.Reply
	for range 2 {
		for _, b := range [][]byte{nil, {}, {1}, make([]byte, 3000), data(t, 0, to(0, 5), api.Options{}), raw(t, ack(0, 5, api.Options{}))} {
			mustRefuse(t, r, b, api.ErrNil)
		}
		mustHear(t, r, 0)
		if r.Clone() != nil {
			t.Error("a clone of nil")
		}
	}
}

// P1: nothing is promised of the zero value, but that no call panics.
func TestTheZeroValue(t *testing.T) {
	var r reply.Reply
	for _, r := range []*reply.Reply{&r, r.Clone()} {
		r.Take(nil)
		r.Take(data(t, 0, to(0, 5), stamp(1, 2)))
		r.Take(raw(t, ack(0, 5, api.Options{})))
		r.Next()
		r.Text()
		r.Above()
	}
}

// What is handed in is neither changed nor kept, and what lies behind its length is neither read nor written.
func TestTakeKeepsNothing(t *testing.T) {
	r := with(t, 0, 100, to(3, 5))
	b := append(data(t, 0, to(0, 3), stamp(1, 2)), 91, 92, 93)
	was := slices.Clone(b)
	answer, e := r.Take(b[:len(b)-3])
	if e != api.OK || !bytes.Equal(b, was) {
		t.Fatal(e, b)
	}
	told := slices.Clone(answer)
	clear(b)
	mustHear(t, r, 5)
	if !bytes.Equal(answer, told) {
		t.Error(answer)
	}
	// What is answered is new memory, behind its length too.
	clear(answer[:cap(answer)])
	mustTell(t, r, 0, to(8, 9), 5, to(8, 9))
	mustHear(t, r, 5, to(8, 9))
}

// P24.2: what is asked is new memory, behind its length too.
func TestWhatIsAskedIsNewMemory(t *testing.T) {
	r := with(t, 0, 100, to(0, 4), to(20, 22), to(10, 12), to(30, 32), to(6, 8))
	want := []api.Span{to(6, 8), to(30, 32), to(10, 12), to(20, 22)}
	mustHear(t, r, 4, want...)
	l, p := r.Above(), r.Text()
	other, also := r.Above(), r.Text()
	clear(l[:cap(l)])
	clear(p[:cap(p)])
	_, _ = append(l, to(1, 2)), append(p, 9)
	if !slices.Equal(other, want) || !bytes.Equal(also, text(to(0, 4))) {
		t.Error("two answers share their memory")
	}
	mustHear(t, r, 4, want...)
	// It stays, whatever comes later.
	mustTell(t, r, 0, to(10, 11), 4, to(10, 11), to(10, 12), to(6, 8), to(30, 32))
	mustTell(t, r, 0, to(4, 6), 8, to(10, 12), to(30, 32), to(20, 22))
	if !slices.Equal(other, want) || !bytes.Equal(also, text(to(0, 4))) {
		t.Error(other, also)
	}
}

// P24.2: a clone goes its own way.
func TestClone(t *testing.T) {
	first := uint32(1<<32 - 12)
	r := with(t, first, 40, to(0, 4), to(20, 22), to(10, 12), to(30, 32))
	c := r.Clone()
	if c == nil || c == r {
		t.Fatal("no clone")
	}
	mustHear(t, c, 4, to(30, 32), to(10, 12), to(20, 22))
	mustTell(t, c, first, to(20, 21), 4, to(20, 21), to(20, 22), to(30, 32), to(10, 12))
	mustHear(t, r, 4, to(30, 32), to(10, 12), to(20, 22))
	mustTell(t, r, first, to(4, 10), 12, to(30, 32), to(20, 22))
	mustHear(t, c, 4, to(20, 22), to(30, 32), to(10, 12))
	mustTell(t, r, first, to(15, 16), 12, to(15, 16), to(30, 32), to(20, 22))
	mustTell(t, c, first, to(6, 7), 4, to(6, 7), to(20, 22), to(30, 32), to(10, 12))
	mustHear(t, r, 12, to(15, 16), to(30, 32), to(20, 22))
	mustHear(t, c, 4, to(6, 7), to(20, 22), to(30, 32), to(10, 12))
	// It has the same room.
	mustRefuse(t, c, data(t, first, to(44, 45), api.Options{}), api.ErrAhead)
	mustTell(t, c, first, to(43, 44), 4, to(43, 44), to(6, 7), to(20, 22), to(30, 32))
	mustTell(t, r, first, to(51, 52), 12, to(51, 52), to(15, 16), to(30, 32), to(20, 22))
	mustHear(t, c.Clone().Clone(), 4, to(43, 44), to(6, 7), to(20, 22), to(30, 32), to(10, 12))
}
