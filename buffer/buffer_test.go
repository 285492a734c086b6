package buffer_test

import (
	"bytes"
	"math"
	"math/rand"
	"reflect"
	"slices"
	"testing"

	"undertow/api"
	"undertow/buffer"
)

// The calls with the types that the chapter lists.
var (
	_ func(una, most int) (*buffer.Buffer, api.Errno)    = buffer.New
	_ func(*buffer.Buffer, []byte) api.Errno             = (*buffer.Buffer).Write
	_ func(*buffer.Buffer, api.Span) ([]byte, api.Errno) = (*buffer.Buffer).Read
	_ func(*buffer.Buffer, int) api.Errno                = (*buffer.Buffer).Free
	_ func(*buffer.Buffer) int                           = (*buffer.Buffer).Una
	_ func(*buffer.Buffer) int                           = (*buffer.Buffer).End
	_ func(*buffer.Buffer) int                           = (*buffer.Buffer).Room
	_ func(*buffer.Buffer) *buffer.Buffer                = (*buffer.Buffer).Clone
)

// What the calls of a buffer are made of are none of its own.
func TestABufferHasNoOtherCalls(t *testing.T) {
	var got []string
	for m := range reflect.TypeFor[*buffer.Buffer]().Methods() {
		got = append(got, m.Name)
	}
	slices.Sort(got)
	if want := []string{"Clone", "End", "Free", "Read", "Room", "Una", "Write"}; !slices.Equal(got, want) {
		t.Error(got)
	}
	for _, f := range reflect.VisibleFields(reflect.TypeFor[buffer.Buffer]()) {
		if f.IsExported() {
			t.Errorf("field %s", f.Name)
		}
	}
}

// to is a span.
func to(from, to int) api.Span {
	return api.Span{From: from, To: to}
}

// never are spans that may not be.
func never() []api.Span {
	return []api.Span{
		to(-1, 5), to(-5, -1), to(-1, 0), to(-1, -1), to(5, 4), to(1, 0), to(api.MaxOff, 0), to(0, api.MaxOff+1), to(api.MaxOff, api.MaxOff+1), to(api.MaxOff+1, api.MaxOff+1),
		to(0, math.MaxInt), to(math.MinInt, math.MaxInt), to(math.MaxInt, math.MinInt), to(math.MaxInt, math.MaxInt), to(math.MinInt, math.MinInt), to(5, math.MinInt),
	}
}

// some is n bytes, all those that stand near each other unlike each other, and none of them 0.
func some(n int) []byte {
	p := make([]byte, n)
	for i := range p {
		p[i] = byte(i%251 + 1)
	}
	return p
}

// of is a buffer that has these bytes from una on.
func of(t *testing.T, una, most int, p ...byte) *buffer.Buffer {
	t.Helper()
	b, e := buffer.New(una, most)
	if b == nil || e != api.OK {
		t.Fatalf("New(%d, %d): %v, %d", una, most, b, e)
	}
	mustWrite(t, b, p, api.OK)
	mustBe(t, b, state{una, una + len(p), most - len(p)})
	return b
}

// state is all that a buffer is asked for, but its bytes.
type state struct{ una, end, room int }

// mustBe fails if a buffer answers something else.
func mustBe(t *testing.T, b *buffer.Buffer, want state) {
	t.Helper()
	if got := (state{b.Una(), b.End(), b.Room()}); got != want {
		t.Fatalf("%+v, not %+v", got, want)
	}
}

// mustWrite fails if Write answers something else.
func mustWrite(t *testing.T, b *buffer.Buffer, p []byte, want api.Errno) {
	t.Helper()
	if got := b.Write(p); got != want {
		t.Fatalf("Write of %d bytes: %d, not %d", len(p), got, want)
	}
}

// mustFree fails if Free answers something else.
func mustFree(t *testing.T, b *buffer.Buffer, to int, want api.Errno) {
	t.Helper()
	if got := b.Free(to); got != want {
		t.Fatalf("Free(%d): %d, not %d", to, got, want)
	}
}

// mustRead fails if Read answers other bytes, or an error.
func mustRead(t *testing.T, b *buffer.Buffer, s api.Span, want ...byte) {
	t.Helper()
	if got, e := b.Read(s); e != api.OK || !bytes.Equal(got, want) {
		t.Fatalf("Read(%v): %v, %d, not %v", s, got, e, want)
	}
}

// mustNotRead fails if Read answers bytes, or another error.
func mustNotRead(t *testing.T, b *buffer.Buffer, s api.Span, want api.Errno) {
	t.Helper()
	if got, e := b.Read(s); e != want || len(got) > 0 {
		t.Fatalf("Read(%v): %v, %d, not %d", s, got, e, want)
	}
}

// mustHold fails if a buffer has other bytes from una on, whole or in parts, or if it tells something beside them.
func mustHold(t *testing.T, b *buffer.Buffer, una int, want ...byte) {
	t.Helper()
	end := una + len(want)
	for from := una; from <= end; from++ {
		for till := from; till <= end; till++ {
			mustRead(t, b, to(from, till), want[from-una:till-una]...)
		}
		mustNotRead(t, b, to(from, end+1), api.ErrRange)
		mustNotRead(t, b, to(una-1, from), api.ErrRange)
	}
}

// P21.1
func TestNew(t *testing.T) {
	for _, c := range []struct {
		una, most int
		want      api.Errno
	}{
		{0, 1, api.OK}, {0, api.MaxBuffer, api.OK}, {5, 4, api.OK}, {1, api.MaxBuffer - 1, api.OK}, {api.MaxOff, 1, api.OK}, {api.MaxOff - 1, api.MaxBuffer, api.OK}, {api.MaxOff, api.MaxBuffer, api.OK},
		{-1, 1, api.ErrArg}, {api.MaxOff + 1, 1, api.ErrArg}, {math.MinInt, 1, api.ErrArg}, {math.MaxInt, 1, api.ErrArg}, {0, 0, api.ErrArg}, {0, -1, api.ErrArg}, {0, api.MaxBuffer + 1, api.ErrArg},
		{0, math.MinInt, api.ErrArg}, {0, math.MaxInt, api.ErrArg}, {0, api.MaxOff, api.ErrArg}, {-1, 0, api.ErrArg}, {api.MaxOff + 1, api.MaxBuffer + 1, api.ErrArg}, {math.MaxInt, math.MaxInt, api.ErrArg},
	} {
		b, e := buffer.New(c.una, c.most)
		if e != c.want || (b == nil) != (e != api.OK) {
			t.Errorf("New(%d, %d): %v, %d, not %d", c.una, c.most, b, e, c.want)
		}
		if b != nil {
			mustBe(t, b, state{c.una, c.una, c.most})
			mustRead(t, b, to(c.una, c.una))
			mustNotRead(t, b, to(c.una, c.una+1), api.ErrRange)
		}
	}
}

// P21.1, P21.2: the example of the chapter.
func TestTheExample(t *testing.T) {
	b := of(t, 5, 4, 1, 2, 3)
	mustFree(t, b, 7, api.OK)
	mustBe(t, b, state{7, 8, 3})
	mustWrite(t, b, []byte{4, 5, 6}, api.OK)
	mustBe(t, b, state{7, 11, 0})
	mustRead(t, b, to(7, 11), 3, 4, 5, 6)
	mustWrite(t, b, []byte{7}, api.ErrFull)
	mustBe(t, b, state{7, 11, 0})
	mustHold(t, b, 7, 3, 4, 5, 6)
}

// P21.1: bytes stand behind those that are there, be it full afterwards or not.
func TestWrite(t *testing.T) {
	b := of(t, 100, 10)
	mustWrite(t, b, []byte{1, 2, 3}, api.OK)
	mustBe(t, b, state{100, 103, 7})
	mustHold(t, b, 100, 1, 2, 3)
	mustWrite(t, b, []byte{4}, api.OK)
	mustWrite(t, b, nil, api.OK)
	mustWrite(t, b, []byte{}, api.OK)
	mustBe(t, b, state{100, 104, 6})
	mustHold(t, b, 100, 1, 2, 3, 4)
	mustWrite(t, b, []byte{5, 6, 7, 8, 9, 10}, api.OK)
	mustBe(t, b, state{100, 110, 0})
	mustHold(t, b, 100, 1, 2, 3, 4, 5, 6, 7, 8, 9, 10)
	mustWrite(t, b, nil, api.OK)
	mustBe(t, b, state{100, 110, 0})
}

// P21.1: of more bytes than there is room for none is written.
func TestWriteOfTooMany(t *testing.T) {
	b := of(t, 0, 5, 1, 2)
	for _, n := range []int{4, 5, 6, 7, 10, 11, 100, api.MaxBuffer, api.MaxBuffer + 1} {
		mustWrite(t, b, some(n), api.ErrFull)
		mustBe(t, b, state{0, 2, 3})
		mustHold(t, b, 0, 1, 2)
	}
	mustWrite(t, b, []byte{3, 4, 5}, api.OK)
	mustWrite(t, b, some(1), api.ErrFull)
	mustHold(t, b, 0, 1, 2, 3, 4, 5)
	mustFree(t, b, 2, api.OK)
	mustWrite(t, b, some(3), api.ErrFull)
	mustBe(t, b, state{2, 5, 2})
	mustHold(t, b, 2, 3, 4, 5)
	mustWrite(t, b, []byte{6, 7}, api.OK)
	mustHold(t, b, 2, 3, 4, 5, 6, 7)
}

// P21.1: no byte stands at MaxOff or above; that there is no room is told first.
func TestWriteNearTheEndOfAll(t *testing.T) {
	b := of(t, api.MaxOff-3, 5, 1)
	mustWrite(t, b, some(5), api.ErrFull)
	mustWrite(t, b, some(4), api.ErrRange)
	mustWrite(t, b, some(3), api.ErrRange)
	mustBe(t, b, state{api.MaxOff - 3, api.MaxOff - 2, 4})
	mustHold(t, b, api.MaxOff-3, 1)
	mustWrite(t, b, []byte{2, 3}, api.OK)
	mustBe(t, b, state{api.MaxOff - 3, api.MaxOff, 2})
	mustHold(t, b, api.MaxOff-3, 1, 2, 3)
	mustWrite(t, b, some(3), api.ErrFull)
	mustWrite(t, b, some(2), api.ErrRange)
	mustWrite(t, b, some(1), api.ErrRange)
	mustWrite(t, b, nil, api.OK)
	mustHold(t, b, api.MaxOff-3, 1, 2, 3)
	mustFree(t, b, api.MaxOff, api.OK)
	mustBe(t, b, state{api.MaxOff, api.MaxOff, 5})
	mustWrite(t, b, some(6), api.ErrFull)
	mustWrite(t, b, some(5), api.ErrRange)
	mustWrite(t, b, some(1), api.ErrRange)
	mustWrite(t, b, nil, api.OK)
	mustRead(t, b, to(api.MaxOff, api.MaxOff))
	mustFree(t, b, api.MaxOff, api.OK)
	mustFree(t, b, api.MaxOff+1, api.ErrAhead)
	mustFree(t, b, api.MaxOff-1, api.ErrOld)
	mustBe(t, b, state{api.MaxOff, api.MaxOff, 5})
}

// P21.2
func TestRead(t *testing.T) {
	b := of(t, 10, 8, 1, 2, 3, 4, 5)
	mustFree(t, b, 12, api.OK)
	for _, c := range []struct {
		s    api.Span
		want []byte
	}{
		{to(12, 15), []byte{3, 4, 5}}, {to(12, 13), []byte{3}}, {to(13, 14), []byte{4}}, {to(14, 15), []byte{5}}, {to(13, 15), []byte{4, 5}}, {to(12, 12), nil}, {to(13, 13), nil}, {to(15, 15), nil},
	} {
		mustRead(t, b, c.s, c.want...)
	}
	for _, s := range slices.Concat(never(), []api.Span{
		to(11, 12), to(11, 13), to(11, 15), to(10, 12), to(11, 11), to(0, 0), to(0, 12), to(0, 15), to(0, 20),
		to(12, 16), to(14, 16), to(15, 16), to(16, 16), to(20, 20), to(11, 16), to(20, 21), to(14, 13), to(15, 12), to(13, 12), to(12, 20), to(4, 7), to(20, 23), to(12, api.MaxOff), to(api.MaxOff, api.MaxOff),
	}) {
		mustNotRead(t, b, s, api.ErrRange)
	}
	mustBe(t, b, state{12, 15, 5})
	mustHold(t, b, 12, 3, 4, 5)
}

// P21.2
func TestFree(t *testing.T) {
	b := of(t, 10, 8, 1, 2, 3, 4, 5)
	for _, c := range []struct {
		to   int
		want api.Errno
	}{{9, api.ErrOld}, {0, api.ErrOld}, {-1, api.ErrOld}, {math.MinInt, api.ErrOld}, {16, api.ErrAhead}, {18, api.ErrAhead}, {19, api.ErrAhead}, {api.MaxOff, api.ErrAhead}, {api.MaxOff + 1, api.ErrAhead}, {math.MaxInt, api.ErrAhead}} {
		mustFree(t, b, c.to, c.want)
		mustBe(t, b, state{10, 15, 3})
		mustHold(t, b, 10, 1, 2, 3, 4, 5)
	}
	mustFree(t, b, 10, api.OK)
	mustHold(t, b, 10, 1, 2, 3, 4, 5)
	mustFree(t, b, 11, api.OK)
	mustBe(t, b, state{11, 15, 4})
	mustHold(t, b, 11, 2, 3, 4, 5)
	mustFree(t, b, 10, api.ErrOld)
	mustFree(t, b, 14, api.OK)
	mustBe(t, b, state{14, 15, 7})
	mustHold(t, b, 14, 5)
	mustFree(t, b, 15, api.OK)
	mustBe(t, b, state{15, 15, 8})
	mustHold(t, b, 15)
	mustFree(t, b, 15, api.OK)
	mustFree(t, b, 14, api.ErrOld)
	mustFree(t, b, 16, api.ErrAhead)
	mustBe(t, b, state{15, 15, 8})
}

// P21.4: wherever the ring's end falls among the bytes, and however many there are.
func TestRound(t *testing.T) {
	for most := 1; most <= 7; most++ {
		for una := range 2 * most {
			for first := range most + 1 {
				for freed := range first + 1 {
					b := of(t, una, most, some(first)...)
					mustFree(t, b, una+freed, api.OK)
					p := some(most + freed)
					mustWrite(t, b, p[first:], api.OK)
					mustBe(t, b, state{una + freed, una + freed + most, 0})
					mustHold(t, b, una+freed, p[freed:]...)
				}
			}
		}
	}
}

// P21.4: of as many bytes as there may be, many times round.
func TestTheGreatest(t *testing.T) {
	const most = api.MaxBuffer
	p := some(10*most + 7)
	b := of(t, 3, most)
	at, end := 0, 0
	for end < len(p) {
		n := min(most-(end-at), len(p)-end)
		mustWrite(t, b, p[end:end+n], api.OK)
		end += n
		mustBe(t, b, state{3 + at, 3 + end, most - (end - at)})
		mustRead(t, b, to(3+at, 3+end), p[at:end]...)
		mustRead(t, b, to(3+end-1, 3+end), p[end-1])
		at += 30011
		mustFree(t, b, 3+at, api.OK)
		mustNotRead(t, b, to(3+at-1, 3+end), api.ErrRange)
	}
}

// What is handed in is neither changed nor kept, and what lies behind its length is neither read nor written.
func TestWriteKeepsNothing(t *testing.T) {
	b := of(t, 0, 6)
	p := []byte{1, 2, 3, 4, 5, 6, 7, 8}
	mustWrite(t, b, p[:3], api.OK)
	mustBe(t, b, state{0, 3, 3})
	if !bytes.Equal(p, []byte{1, 2, 3, 4, 5, 6, 7, 8}) {
		t.Error(p)
	}
	clear(p)
	mustHold(t, b, 0, 1, 2, 3)
	mustFree(t, b, 2, api.OK)
	copy(p, []byte{4, 5, 6, 7, 8})
	mustWrite(t, b, p[:4], api.OK)
	mustHold(t, b, 2, 3, 4, 5, 6, 7)
	if !bytes.Equal(p[:5], []byte{4, 5, 6, 7, 8}) {
		t.Error(p)
	}
	clear(p)
	mustHold(t, b, 2, 3, 4, 5, 6, 7)
}

// What is answered is new memory, of a part as of the whole, in one piece as in two, and behind its length too.
func TestReadIsNewMemory(t *testing.T) {
	b := of(t, 0, 5, 1, 2, 3, 4, 5)
	mustFree(t, b, 3, api.OK)
	mustWrite(t, b, []byte{6, 7, 8}, api.OK)
	for _, s := range []api.Span{to(3, 5), to(5, 8), to(3, 8), to(4, 6), to(3, 3), to(5, 5), to(6, 6), to(8, 8), to(6, 7)} {
		got, e := b.Read(s)
		if e != api.OK {
			t.Fatal(s, e)
		}
		other, _ := b.Read(s)
		was := slices.Clone(other)
		clear(got[:cap(got)])
		_ = append(got, 90, 91, 92, 93, 94)
		if !bytes.Equal(other, was) {
			t.Errorf("Read(%v) answers the same memory twice", s)
		}
		mustHold(t, b, 3, 4, 5, 6, 7, 8)
	}
	// What was read stays, whatever is written where it stood.
	got, _ := b.Read(to(3, 8))
	mustFree(t, b, 8, api.OK)
	mustWrite(t, b, []byte{9, 10, 11, 12, 13}, api.OK)
	if !bytes.Equal(got, []byte{4, 5, 6, 7, 8}) {
		t.Error(got)
	}
}

// P21.3: a clone goes its own way.
func TestClone(t *testing.T) {
	b := of(t, 7, 5, 1, 2, 3, 4)
	mustFree(t, b, 9, api.OK)
	c := b.Clone()
	if c == nil || c == b {
		t.Fatal("no clone")
	}
	mustBe(t, c, state{9, 11, 3})
	mustHold(t, c, 9, 3, 4)
	mustWrite(t, b, []byte{5, 6, 7}, api.OK)
	mustBe(t, c, state{9, 11, 3})
	mustWrite(t, c, []byte{15, 16}, api.OK)
	mustHold(t, b, 9, 3, 4, 5, 6, 7)
	mustHold(t, c, 9, 3, 4, 15, 16)
	mustFree(t, c, 13, api.OK)
	mustBe(t, b, state{9, 14, 0})
	mustBe(t, c, state{13, 13, 5})
	mustWrite(t, c, []byte{17, 18, 19, 20, 21}, api.OK)
	mustWrite(t, c, []byte{22}, api.ErrFull)
	mustHold(t, b, 9, 3, 4, 5, 6, 7)
	mustHold(t, c, 13, 17, 18, 19, 20, 21)
	mustFree(t, b, 14, api.OK)
	mustWrite(t, b, []byte{8, 9, 10, 11, 12}, api.OK)
	mustHold(t, c, 13, 17, 18, 19, 20, 21)
	mustHold(t, b, 14, 8, 9, 10, 11, 12)
}

// P21.3: of one without bytes
func TestACloneOfNothing(t *testing.T) {
	b := of(t, api.MaxOff-2, 3)
	c := b.Clone()
	mustBe(t, c, state{api.MaxOff - 2, api.MaxOff - 2, 3})
	mustWrite(t, c, []byte{1, 2}, api.OK)
	mustBe(t, b, state{api.MaxOff - 2, api.MaxOff - 2, 3})
	mustWrite(t, b, []byte{3}, api.OK)
	mustHold(t, b, api.MaxOff-2, 3)
	mustHold(t, c, api.MaxOff-2, 1, 2)
}

// P21.3: of nil
func TestOfNil(t *testing.T) {
	var b *buffer.Buffer
	for range 2 {
		for _, p := range [][]byte{nil, {}, {1}, some(api.MaxBuffer + 1)} {
			mustWrite(t, b, p, api.ErrNil)
		}
		for _, s := range append(never(), to(0, 0), to(0, 5)) {
			mustNotRead(t, b, s, api.ErrNil)
		}
		for _, off := range []int{math.MinInt, -1, 0, 1, api.MaxOff, math.MaxInt} {
			mustFree(t, b, off, api.ErrNil)
		}
		mustBe(t, b, state{})
		if b.Clone() != nil {
			t.Error("a clone of nil")
		}
	}
}

// P1: nothing is promised of the zero value, but that no call panics.
func TestTheZeroValue(t *testing.T) {
	var b buffer.Buffer
	for _, b := range []*buffer.Buffer{&b, b.Clone()} {
		b.Write(nil)
		b.Write([]byte{1})
		for _, s := range append(never(), to(0, 0), to(0, 1)) {
			b.Read(s)
		}
		b.Free(0)
		b.Free(1)
		b.Una()
		b.End()
		b.Room()
	}
}

// model is what the chapter says, in words as near as may be: all bytes that were written, of which some were freed.
type model struct {
	first, una, most int
	written          []byte
}

func (m *model) end() int {
	return m.first + len(m.written)
}

func (m *model) room() int {
	return m.most - (m.end() - m.una)
}

func (m *model) write(p []byte) api.Errno {
	switch {
	case len(p) > m.room():
		return api.ErrFull
	case len(p) > 1<<62-m.end():
		return api.ErrRange
	}
	m.written = slices.Concat(m.written, p)
	return api.OK
}

func (m *model) read(s api.Span) ([]byte, api.Errno) {
	if s.From > s.To || s.From < m.una || s.To > m.end() {
		return nil, api.ErrRange
	}
	return m.written[s.From-m.first : s.To-m.first], api.OK
}

func (m *model) free(to int) api.Errno {
	switch {
	case to < m.una:
		return api.ErrOld
	case to > m.end():
		return api.ErrAhead
	}
	m.una = to
	return api.OK
}

// pair is a buffer, and the model that it must be like.
type pair struct {
	b *buffer.Buffer
	m model
}

// do does something to both, and fails if they answer otherwise.
func do(t *testing.T, rnd *rand.Rand, p *pair) {
	t.Helper()
	// near is an offset that is kept, mostly, or one close by.
	near := func() int { return p.m.una - 2 + rnd.Intn(p.m.end()-p.m.una+5) }
	switch rnd.Intn(4) {
	case 0, 1:
		more := make([]byte, rnd.Intn(p.m.room()+3))
		rnd.Read(more)
		mustWrite(t, p.b, more, p.m.write(more))
	case 2:
		s := to(near(), near())
		want, e := p.m.read(s)
		if e != api.OK {
			mustNotRead(t, p.b, s, e)
		} else {
			mustRead(t, p.b, s, want...)
		}
	default:
		to := near()
		mustFree(t, p.b, to, p.m.free(to))
	}
}

// P21.1 to P21.4: some that go their own ways, beside the model.
func TestAnyWay(t *testing.T) {
	rnd := rand.New(rand.NewSource(21))
	for _, una := range []int{0, 5, 1 << 32, 1<<61 + 3, api.MaxOff - 2000, api.MaxOff - 100, api.MaxOff - 5} {
		for most := 1; most <= 40; most++ {
			pairs := []*pair{{of(t, una, most), model{first: una, una: una, most: most}}}
			for range 500 {
				p := pairs[rnd.Intn(len(pairs))]
				if rnd.Intn(100) == 0 {
					c := &pair{p.b.Clone(), p.m}
					pairs = append(pairs[:min(len(pairs), 2)], c)
				}
				do(t, rnd, p)
				for _, p := range pairs {
					mustBe(t, p.b, state{p.m.una, p.m.end(), p.m.room()})
					mustRead(t, p.b, to(p.m.una, p.m.end()), p.m.written[p.m.una-p.m.first:]...)
				}
			}
		}
	}
}

// P21.4: written in pieces of some sizes, and read in pieces of others, while what was read is freed.
func TestWhereverItIsCut(t *testing.T) {
	rnd := rand.New(rand.NewSource(4))
	for _, most := range []int{1, 2, 13, 64, 1000, api.MaxBuffer} {
		all := make([]byte, min(200*most, 5*api.MaxBuffer))
		rnd.Read(all)
		b := of(t, 77, most)
		var got []byte
		for len(got) < len(all) {
			written := b.End() - 77
			n := min(rnd.Intn(b.Room()+1), len(all)-written)
			mustWrite(t, b, all[written:written+n], api.OK)
			for range 3 {
				till := b.Una() + rnd.Intn(b.End()-b.Una()+1)
				piece, e := b.Read(to(b.Una(), till))
				if e != api.OK {
					t.Fatal(e)
				}
				got = append(got, piece...)
				mustFree(t, b, till, api.OK)
			}
		}
		if !bytes.Equal(got, all) {
			t.Errorf("of a buffer of %d other bytes are read", most)
		}
	}
}
