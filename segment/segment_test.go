package segment_test

import (
	"bytes"
	"math"
	"math/rand"
	"slices"
	"testing"

	"undertow/api"
	"undertow/option"
	"undertow/segment"
)

// The calls with the types that the chapter lists.
var (
	_ func(api.Segment) api.Errno           = segment.Check
	_ func(api.Segment) int                 = segment.Size
	_ func(api.Segment) ([]byte, api.Errno) = segment.Encode
	_ func([]byte) (api.Segment, api.Errno) = segment.Decode
	_ func(a, b api.Segment) bool           = segment.Same
	_ func(api.Segment) api.Segment         = segment.Clone
)

// blocks is n blocks, no two of them the same.
func blocks(n int) []api.Block {
	var l []api.Block
	for i := range n {
		l = append(l, api.Block{Left: uint32(i)<<24 + 1, Right: uint32(i)<<16 + 2})
	}
	return l
}

// data is a SegData with a body of n bytes.
func data(n int) api.Segment {
	s := api.Segment{Kind: api.SegData, Num: 7}
	for i := range n {
		s.Body = append(s.Body, byte(i*31+1))
	}
	return s
}

// ack is a SegAck with n blocks.
func ack(n int) api.Segment {
	return api.Segment{Kind: api.SegAck, Num: 9, Opt: api.Options{Blocks: blocks(n)}}
}

// with is a segment, changed.
func with(s api.Segment, change func(s *api.Segment)) api.Segment {
	change(&s)
	return s
}

// some is a segment that may be, but for the size of its options.
func some(r *rand.Rand) api.Segment {
	s := api.Segment{Kind: api.SegData + r.Intn(2), Num: []uint32{0, 1, 1 << 31, 1<<32 - 1, r.Uint32(), r.Uint32()}[r.Intn(6)]}
	if r.Intn(3) == 0 {
		s.Opt.Mss = 1 + r.Intn(65535)
	}
	s.Opt.Permit = r.Intn(3) == 0
	if s.Opt.Ts = r.Intn(2) == 0; s.Opt.Ts {
		s.Opt.Val, s.Opt.Ecr = r.Uint32(), r.Uint32()
	}
	if s.Opt.HasScale = r.Intn(3) == 0; s.Opt.HasScale {
		s.Opt.Scale = r.Intn(15)
	}
	if s.Kind == api.SegData {
		s.Body = make([]byte, []int{1, 2, 3, 2047, 2048, 1 + r.Intn(50), 1 + r.Intn(2048)}[r.Intn(7)])
		r.Read(s.Body)
		return s
	}
	for range r.Intn(5) {
		s.Opt.Blocks = append(s.Opt.Blocks, api.Block{Left: r.Uint32(), Right: r.Uint32()})
	}
	return s
}

// wrong is segments that may not be, each with the error of Check.
func wrong() map[string]struct {
	s    api.Segment
	want api.Errno
} {
	type row = struct {
		s    api.Segment
		want api.Errno
	}
	return map[string]row{
		"zero":               {api.Segment{}, api.ErrKind},
		"kind 0":             {with(data(3), func(s *api.Segment) { s.Kind = 0 }), api.ErrKind},
		"kind 3":             {with(data(3), func(s *api.Segment) { s.Kind = 3 }), api.ErrKind},
		"kind -1":            {with(data(3), func(s *api.Segment) { s.Kind = -1 }), api.ErrKind},
		"kind 257":           {with(data(3), func(s *api.Segment) { s.Kind = 257 }), api.ErrKind},
		"kind 258":           {with(ack(1), func(s *api.Segment) { s.Kind = 258 }), api.ErrKind},
		"kind 2^32+1":        {with(data(3), func(s *api.Segment) { s.Kind = 1<<32 + 1 }), api.ErrKind},
		"greatest kind":      {with(data(3), func(s *api.Segment) { s.Kind = math.MaxInt }), api.ErrKind},
		"least kind":         {with(data(3), func(s *api.Segment) { s.Kind = math.MinInt }), api.ErrKind},
		"Mss":                {with(data(3), func(s *api.Segment) { s.Opt.Mss = 65536 }), api.ErrRange},
		"Mss below 0":        {with(ack(0), func(s *api.Segment) { s.Opt.Mss = -1 }), api.ErrRange},
		"Scale":              {with(ack(0), func(s *api.Segment) { s.Opt.HasScale, s.Opt.Scale = true, 15 }), api.ErrRange},
		"Scale untold":       {with(ack(0), func(s *api.Segment) { s.Opt.Scale = 1 }), api.ErrForm},
		"Val untold":         {with(data(3), func(s *api.Segment) { s.Opt.Val = 1 }), api.ErrForm},
		"five blocks":        {ack(5), api.ErrLong},
		"four blocks and Ts": {with(ack(4), func(s *api.Segment) { s.Opt.Ts = true }), api.ErrLong},
		"no body":            {data(0), api.ErrForm},
		"empty body":         {with(data(0), func(s *api.Segment) { s.Body = []byte{} }), api.ErrForm},
		"data with a block":  {with(data(3), func(s *api.Segment) { s.Opt.Blocks = blocks(1) }), api.ErrForm},
		"ack with a body":    {with(ack(1), func(s *api.Segment) { s.Body = []byte{0} }), api.ErrForm},
		"long body":          {data(2049), api.ErrLong},
		"longer body":        {data(1 << 16), api.ErrLong},

		// Of several errors the one named first.
		"kind and options":           {with(data(3), func(s *api.Segment) { s.Kind, s.Opt.Mss = 3, -1 }), api.ErrKind},
		"kind and no body":           {with(data(0), func(s *api.Segment) { s.Kind = 0 }), api.ErrKind},
		"kind and long body":         {with(data(2049), func(s *api.Segment) { s.Kind = 5 }), api.ErrKind},
		"kind and blocks":            {with(ack(5), func(s *api.Segment) { s.Kind = 5 }), api.ErrKind},
		"options and no body":        {with(data(0), func(s *api.Segment) { s.Opt.Mss = -1 }), api.ErrRange},
		"blocks and a body":          {with(ack(5), func(s *api.Segment) { s.Body = []byte{1} }), api.ErrLong},
		"data with five blocks":      {with(data(3), func(s *api.Segment) { s.Opt.Blocks = blocks(5) }), api.ErrLong},
		"options and long body":      {with(data(2049), func(s *api.Segment) { s.Opt.Mss = 65536 }), api.ErrRange},
		"options of two errors":      {with(data(3), func(s *api.Segment) { s.Opt.Mss, s.Opt.Val = -1, 1 }), api.ErrRange},
		"a block and a long body":    {with(data(2049), func(s *api.Segment) { s.Opt.Blocks = blocks(1) }), api.ErrForm},
		"ack with a long body":       {with(data(2049), func(s *api.Segment) { s.Kind = api.SegAck }), api.ErrForm},
		"no body, but a block":       {with(data(0), func(s *api.Segment) { s.Opt.Blocks = blocks(1) }), api.ErrForm},
		"Scale untold, no body":      {with(data(0), func(s *api.Segment) { s.Opt.Scale = 1 }), api.ErrForm},
		"many blocks and no body":    {with(data(0), func(s *api.Segment) { s.Opt.Blocks = blocks(200) }), api.ErrLong},
		"room, and data with blocks": {with(data(3), func(s *api.Segment) { s.Opt.Ts, s.Opt.Blocks = true, blocks(4) }), api.ErrLong},
	}
}

// fine is segments that may be, each with its size.
func fine() map[string]struct {
	s    api.Segment
	size int
} {
	type row = struct {
		s    api.Segment
		size int
	}
	return map[string]row{
		"ack":                {ack(0), 8},
		"ack of 0":           {api.Segment{Kind: api.SegAck}, 8},
		"ack, empty lists":   {api.Segment{Kind: api.SegAck, Num: 1<<32 - 1, Opt: api.Options{Blocks: []api.Block{}}, Body: []byte{}}, 8},
		"ack with a block":   {ack(1), 20},
		"ack with blocks":    {ack(4), 44},
		"ack with all":       {with(ack(2), func(s *api.Segment) { s.Opt.Mss, s.Opt.Permit, s.Opt.Ts, s.Opt.HasScale = 1, true, true, true }), 48},
		"ack with Mss":       {with(ack(0), func(s *api.Segment) { s.Opt.Mss = 65535 }), 12},
		"ack with three, Ts": {with(ack(3), func(s *api.Segment) { s.Opt.Ts, s.Opt.Val = true, 1 }), 44},
		"one byte":           {data(1), 9},
		"data":               {data(3), 11},
		"data, empty blocks": {with(data(3), func(s *api.Segment) { s.Opt.Blocks = []api.Block{} }), 11},
		"data with options":  {with(data(5), func(s *api.Segment) { s.Opt.Mss, s.Opt.HasScale, s.Opt.Scale = 1460, true, 14 }), 21},
		"data of 2047":       {data(2047), 2055},
		"data of 2048":       {data(2048), 2056},
		"data of 2048, all":  {with(data(2048), func(s *api.Segment) { s.Opt = api.Options{Mss: 9, Permit: true, Ts: true, HasScale: true} }), 2076},
	}
}

func TestCheckAndSize(t *testing.T) {
	for name, c := range fine() {
		if e := segment.Check(c.s); e != api.OK {
			t.Errorf("%s: Check: %d", name, e)
		}
		if n := segment.Size(c.s); n != c.size {
			t.Errorf("%s: Size: %d, not %d", name, n, c.size)
		}
		if b, e := segment.Encode(c.s); len(b) != c.size || e != api.OK {
			t.Errorf("%s: Encode: %d bytes, %d", name, len(b), e)
		}
	}
}

func TestWhatMayNotBe(t *testing.T) {
	for name, c := range wrong() {
		if e := segment.Check(c.s); e != c.want {
			t.Errorf("%s: Check: %d, not %d", name, e, c.want)
		}
		if n := segment.Size(c.s); n != 0 {
			t.Errorf("%s: Size: %d", name, n)
		}
		if b, e := segment.Encode(c.s); len(b) != 0 || e != c.want {
			t.Errorf("%s: Encode: %v, %d, not %d", name, b, e, c.want)
		}
	}
}

// Of each of option's errors, in each kind: it is the segment's.
func TestCheckTellsTheErrorOfOptions(t *testing.T) {
	r := rand.New(rand.NewSource(1))
	told := map[api.Errno]int{}
	for range 5000 {
		s := some(r)
		switch r.Intn(5) {
		case 0:
			s.Opt.Mss = []int{-1, 0, 65535, 65536, math.MaxInt}[r.Intn(5)]
		case 1:
			s.Opt.Scale = r.Intn(17) - 1
		case 2:
			s.Opt.Ecr = uint32(r.Intn(2))
		case 3:
			s.Opt.Blocks = blocks(r.Intn(7))
		}
		want := option.Check(s.Opt)
		if want == api.OK && s.Kind == api.SegData && len(s.Opt.Blocks) > 0 {
			want = api.ErrForm
		}
		told[want]++
		if e := segment.Check(s); e != want {
			t.Fatalf("Check(%+v): %d, not %d", s, e, want)
		}
	}
	for _, e := range []api.Errno{api.OK, api.ErrRange, api.ErrForm, api.ErrLong} {
		if told[e] == 0 {
			t.Errorf("none tells %d", e)
		}
	}
}

func TestSame(t *testing.T) {
	full := func() api.Segment {
		return api.Segment{
			Kind: 1, Num: 2, Body: []byte{1, 2, 3},
			Opt: api.Options{Mss: 1, Permit: true, Ts: true, Val: 2, Ecr: 3, HasScale: true, Scale: 4, Blocks: blocks(2)},
		}
	}
	if !segment.Same(full(), full()) || !segment.Same(api.Segment{}, api.Segment{}) {
		t.Error("what is the same is told apart")
	}
	if segment.Same(full(), api.Segment{}) || segment.Same(api.Segment{}, full()) {
		t.Error("all and nothing are told to be the same")
	}
	for i, change := range []func(s *api.Segment){
		func(s *api.Segment) { s.Kind = 2 },
		func(s *api.Segment) { s.Kind = 257 },
		func(s *api.Segment) { s.Kind = 0 },
		func(s *api.Segment) { s.Num = 3 },
		func(s *api.Segment) { s.Num += 1 << 31 },
		func(s *api.Segment) { s.Opt.Mss = 2 },
		func(s *api.Segment) { s.Opt.Permit = false },
		func(s *api.Segment) { s.Opt.Ts = false },
		func(s *api.Segment) { s.Opt.Val = 3 },
		func(s *api.Segment) { s.Opt.Ecr = 2 },
		func(s *api.Segment) { s.Opt.HasScale = false },
		func(s *api.Segment) { s.Opt.Scale = 5 },
		func(s *api.Segment) { s.Opt.Blocks = nil },
		func(s *api.Segment) { s.Opt.Blocks = s.Opt.Blocks[:1] },
		func(s *api.Segment) { s.Opt.Blocks[1].Right = 99 },
		func(s *api.Segment) { s.Body = nil },
		func(s *api.Segment) { s.Body = s.Body[:2] },
		func(s *api.Segment) { s.Body = append(s.Body, 0) },
		func(s *api.Segment) { s.Body[0] = 2 },
		func(s *api.Segment) { s.Body[2] = 2 },
		func(s *api.Segment) { slices.Reverse(s.Body) },
	} {
		s := full()
		change(&s)
		if segment.Same(s, full()) || segment.Same(full(), s) {
			t.Errorf("change %d is not told", i)
		}
		if !segment.Same(s, s) {
			t.Errorf("change %d: it is not itself", i)
		}
	}
}

func TestSameTakesEmptyAndNilForOne(t *testing.T) {
	none := api.Segment{Kind: 2}
	empty := api.Segment{Kind: 2, Opt: api.Options{Blocks: []api.Block{}}, Body: []byte{}}
	behind := api.Segment{Kind: 2, Opt: api.Options{Blocks: blocks(3)[:0]}, Body: []byte{1, 2}[:0]}
	for _, a := range []api.Segment{none, empty, behind} {
		for _, b := range []api.Segment{none, empty, behind} {
			if !segment.Same(a, b) {
				t.Errorf("%v and %v are told apart", a, b)
			}
		}
	}
	a, b := []byte{1, 2, 3}, []byte{1, 2, 4}
	if !segment.Same(api.Segment{Body: a[:2]}, api.Segment{Body: b[:2]}) {
		t.Error("what lies behind a list's length is looked at")
	}
}

func TestClone(t *testing.T) {
	r := rand.New(rand.NewSource(2))
	l := []api.Segment{{}, {Body: []byte{}}, data(5000)}
	for range 200 {
		l = append(l, some(r))
	}
	for _, c := range wrong() {
		l = append(l, c.s)
	}
	for _, c := range fine() {
		l = append(l, c.s)
	}
	for _, s := range l {
		if got := segment.Clone(s); !segment.Same(got, s) {
			t.Errorf("Clone(%+v): %+v", s, got)
		}
	}
}

func TestCloneHasMemoryOfItsOwn(t *testing.T) {
	fresh := func() (api.Segment, []byte, []api.Block) {
		body, l := []byte{1, 2, 3, 4}, blocks(4)
		return api.Segment{Kind: 1, Num: 2, Opt: api.Options{Blocks: l[:2]}, Body: body[:2]}, body, l
	}
	s, body, l := fresh()
	c := segment.Clone(s)
	c.Body[0], c.Opt.Blocks[0].Left = 99, 98
	c.Body, c.Opt.Blocks = append(c.Body, 97), append(c.Opt.Blocks, api.Block{Left: 96})
	if !bytes.Equal(body, []byte{1, 2, 3, 4}) || !slices.Equal(l, blocks(4)) {
		t.Error("what is done to the clone is seen:", body, l)
	}
	s, body, l = fresh()
	c = segment.Clone(s)
	clear(body)
	clear(l)
	if want, _, _ := fresh(); !segment.Same(c, want) {
		t.Error("what is done is seen in the clone:", c)
	}
}

func TestSegmentsStayAsTheyAre(t *testing.T) {
	body := []byte{1, 2, 3, 4}
	s := api.Segment{Kind: api.SegData, Body: body[:2]}
	segment.Check(s)
	segment.Size(s)
	segment.Same(s, s)
	a, _ := segment.Encode(s)
	b, _ := segment.Encode(s)
	clear(a)
	if len(b) != 10 || b[0] != 1 || !bytes.Equal(b[8:], []byte{1, 2}) {
		t.Error("two answers share their memory:", b)
	}
	clear(body)
	if !bytes.Equal(b[8:], []byte{1, 2}) {
		t.Error("an answer shares an argument's memory:", b)
	}
	body = []byte{1, 2, 3, 4}
	b, _ = segment.Encode(api.Segment{Kind: api.SegData, Body: body[:2]})
	_ = append(b, 9)
	if !bytes.Equal(body, []byte{1, 2, 3, 4}) {
		t.Error(body)
	}
}
