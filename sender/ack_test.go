package sender_test

import (
	"slices"
	"testing"

	"undertow/api"
)

// turned is bytes of which one bit is turned.
func turned(raw []byte, i int) []byte {
	p := slices.Clone(raw)
	p[i] ^= 1
	return p
}

// P22.3, P22.8: what is refused changes nothing but Bad.
func TestAckRefused(t *testing.T) {
	x := start(t, plain())
	first := x.c.First
	good := ackOf(first, 0, api.Options{})
	x.refuses(nil, api.ErrShort)
	x.refuses(ackOf(first, 1, api.Options{}), api.ErrAhead)
	x.write(200, run(0, 100)...)
	x.tick(10)
	x.ack(30, spans(to(50, 60)), run(100, 150)...)
	bad := x.s.State().Bad
	for _, c := range []struct {
		raw  []byte
		want api.Errno
	}{
		{nil, api.ErrShort},
		{[]byte{2, 0, 253}, api.ErrShort},
		{make([]byte, 2097), api.ErrLong},
		{turned(good, 7), api.ErrSum},
		{turned(good, 0), api.ErrSum},
		{make([]byte, 8), api.ErrSum},
		{[]byte{3, 0, 252, 255, 0, 0, 0, 0}, api.ErrKind},
		{[]byte{2, 11, 253, 244, 0, 0, 0, 0}, api.ErrForm},
		{[]byte{2, 1, 253, 254, 0, 0, 0, 0}, api.ErrShort},
		{rawOf(first, 30, 10, []byte{1}), api.ErrKind},
		{rawOf(first, 1<<20, 10, []byte{1}), api.ErrKind},
		{ackOf(first, 151, api.Options{}), api.ErrAhead},
		{ackOf(first, 151, api.Options{Blocks: x.blocks(spans(to(60, 70)))}), api.ErrAhead},
		{ackOf(first, -1, api.Options{}), api.ErrOld},
		{ackOf(first, 30-1<<17, api.Options{}), api.ErrOld},
		{ackOf(first, 30+1<<31, api.Options{}), api.ErrOld},
		{ackOf(first, 30+1<<30, api.Options{}), api.ErrAhead},
	} {
		x.refuses(c.raw, c.want)
		bad++
	}
	if got := x.s.State().Bad; got != bad {
		t.Errorf("Bad is %d, not %d", got, bad)
	}
	// All goes on as if none of these had come; the last one that is near enough is not refused.
	x.ack(150, nil, run(150, 200)...)
	x.refuses(ackOf(first, 201, api.Options{}), api.ErrAhead)
	x.ack(0, nil)
}

// P22.3: a number far below Una is old; one that is not too far is none that is wrong.
func TestAckOfOldNumbers(t *testing.T) {
	c := plain()
	c.Mss, c.Buffer, c.Start, c.Most = 2048, 65536, 65536, 1<<20
	x := start(t, c)
	for i := range 2 {
		if _, e := x.s.Write(text(to(65536*i, 65536*i+65536))); e != api.OK {
			t.Fatal(e)
		}
		x.s.Tick(10)
		for {
			if _, e := x.s.Ack(ackOf(c.First, x.s.State().Nxt, api.Options{})); e != api.OK {
				t.Fatal(e)
			}
			if s := x.s.State(); s.Una == s.End {
				break
			}
		}
	}
	x.refuses(ackOf(c.First, 65535, api.Options{}), api.ErrOld)
	bad := x.s.State().Bad
	x.ack(65536, nil)
	x.ack(65536, spans(to(65530, 65536), to(70000, 70010)))
	if got := x.s.State().Bad; got != bad {
		t.Errorf("Bad is %d, not %d", got, bad)
	}
}

// P22.3: the blocks that are bad are counted, the others are sacked.
func TestBadBlocks(t *testing.T) {
	x := start(t, plain())
	x.write(100, run(0, 100)...)
	x.tick(10)
	want := x.s.State()
	x.ack(10, spans(to(30, 40), to(90, 101), to(50, 60), to(20, 15)))
	want.Una, want.Pipe, want.Bad = 10, 70, 2
	want.Srtt, want.Rto, want.Cwnd = 10, 100, 110
	x.is(want)
	x.sacked(to(30, 40), to(50, 60))
	// From the number on, not above it: bad; and so is one without offsets.
	x.ack(10, spans(to(10, 20), to(40, 40), to(60, 65)))
	want.Pipe, want.Bad = 65, 4
	x.is(want)
	x.sacked(to(30, 40), to(50, 65))
}
