package option_test

import (
	"math"
	"math/rand"
	"slices"
	"testing"

	"undertow/api"
	"undertow/option"
)

// The calls with the types that the chapter lists.
var (
	_ func(api.Options) api.Errno           = option.Check
	_ func(api.Options) int                 = option.Size
	_ func(api.Options) ([]byte, api.Errno) = option.Encode
	_ func([]byte) (api.Options, api.Errno) = option.Parse
	_ func(a, b api.Options) bool           = option.Same
	_ func(api.Options) api.Options         = option.Clone
)

// blocks is n blocks, no two of them the same.
func blocks(n int) []api.Block {
	var l []api.Block
	for i := range n {
		l = append(l, api.Block{Left: uint32(i)<<24 + 1, Right: uint32(i)<<16 + 2})
	}
	return l
}

// each has every combination of the options that may be said, with up to 6 blocks.
func each() []api.Options {
	var l []api.Options
	for bits := range 16 {
		for n := range 7 {
			o := api.Options{Blocks: blocks(n)}
			if bits&1 != 0 {
				o.Mss = 1460
			}
			if bits&2 != 0 {
				o.Permit = true
			}
			if bits&4 != 0 {
				o.Ts, o.Val, o.Ecr = true, 70000, 1<<32-1
			}
			if bits&8 != 0 {
				o.HasScale, o.Scale = true, 7
			}
			l = append(l, o)
		}
	}
	return l
}

// room is how many bytes options have, as the table has it.
func room(o api.Options) int {
	n := 0
	if o.Mss != 0 {
		n += 4
	}
	if o.Permit {
		n += 2
	}
	if o.Ts {
		n += 10
	}
	if o.HasScale {
		n += 3
	}
	if len(o.Blocks) > 0 {
		n += 2 + 8*len(o.Blocks)
	}
	return (n + 3) / 4 * 4
}

// number is now and then one of those at which something turns over.
func number(r *rand.Rand) uint32 {
	l := []uint32{0, 1, 255, 256, 65535, 65536, 1 << 31, 1<<32 - 1}
	if r.Intn(2) == 0 {
		return l[r.Intn(len(l))]
	}
	return r.Uint32()
}

// some is options that may be, but for their size.
func some(r *rand.Rand) api.Options {
	var o api.Options
	if r.Intn(2) == 0 {
		o.Mss = []int{1, 255, 256, 536, 1460, 65534, 65535, 1 + r.Intn(65535)}[r.Intn(8)]
	}
	o.Permit = r.Intn(2) == 0
	if o.Ts = r.Intn(2) == 0; o.Ts {
		o.Val, o.Ecr = number(r), number(r)
	}
	if o.HasScale = r.Intn(2) == 0; o.HasScale {
		o.Scale = r.Intn(15)
	}
	for range r.Intn(5) {
		o.Blocks = append(o.Blocks, api.Block{Left: number(r), Right: number(r)})
	}
	return o
}

func TestCheck(t *testing.T) {
	for _, c := range []struct {
		o    api.Options
		want api.Errno
	}{
		{api.Options{}, api.OK},
		{api.Options{Mss: 1}, api.OK},
		{api.Options{Mss: 65535}, api.OK},
		{api.Options{Mss: 65536}, api.ErrRange},
		{api.Options{Mss: -1}, api.ErrRange},
		{api.Options{Mss: math.MaxInt}, api.ErrRange},
		{api.Options{Mss: math.MinInt}, api.ErrRange},
		{api.Options{HasScale: true}, api.OK},
		{api.Options{HasScale: true, Scale: 14}, api.OK},
		{api.Options{HasScale: true, Scale: 15}, api.ErrRange},
		{api.Options{HasScale: true, Scale: -1}, api.ErrRange},
		{api.Options{HasScale: true, Scale: 256}, api.ErrRange},
		{api.Options{HasScale: true, Scale: math.MinInt}, api.ErrRange},
		{api.Options{Scale: 1}, api.ErrForm},
		{api.Options{Scale: 14}, api.ErrForm},
		{api.Options{Scale: 15}, api.ErrRange},
		{api.Options{Scale: -1}, api.ErrRange},
		{api.Options{Ts: true}, api.OK},
		{api.Options{Ts: true, Val: 1<<32 - 1, Ecr: 1<<32 - 1}, api.OK},
		{api.Options{Val: 1}, api.ErrForm},
		{api.Options{Ecr: 1}, api.ErrForm},
		{api.Options{Val: 1 << 31, Ecr: 1 << 31}, api.ErrForm},
		{api.Options{Ts: true, Val: 5, Scale: 3}, api.ErrForm},
		{api.Options{HasScale: true, Scale: 3, Ecr: 5}, api.ErrForm},
		{api.Options{Permit: true}, api.OK},
		{api.Options{Blocks: []api.Block{}}, api.OK},
		{api.Options{Blocks: make([]api.Block, 4)}, api.OK},
		{api.Options{Blocks: make([]api.Block, 5)}, api.ErrLong},
		{api.Options{Blocks: make([]api.Block, 40)}, api.ErrLong},
		{api.Options{Blocks: make([]api.Block, 8192)}, api.ErrLong},
		{api.Options{Blocks: []api.Block{{Left: 9, Right: 2}, {Left: 3, Right: 3}}}, api.OK},
	} {
		if got := option.Check(c.o); got != c.want {
			t.Errorf("Check(%+v): %d, not %d", c.o, got, c.want)
		}
	}
}

func TestCheckTellsTheErrorNamedFirst(t *testing.T) {
	long, ts := blocks(5), blocks(4)
	for _, c := range []struct {
		o    api.Options
		want api.Errno
	}{
		{api.Options{Mss: -1, Scale: 3}, api.ErrRange},
		{api.Options{Mss: 65536, Val: 1}, api.ErrRange},
		{api.Options{Mss: 65536, Blocks: long}, api.ErrRange},
		{api.Options{HasScale: true, Scale: 15, Val: 1}, api.ErrRange},
		{api.Options{HasScale: true, Scale: 15, Blocks: long}, api.ErrRange},
		{api.Options{Ts: true, Mss: -1, Blocks: ts}, api.ErrRange},
		{api.Options{Scale: 3, Blocks: long}, api.ErrForm},
		{api.Options{Val: 3, Blocks: long}, api.ErrForm},
		{api.Options{Ecr: 3, Blocks: long}, api.ErrForm},
		{api.Options{Ts: true, Scale: 1, Blocks: ts}, api.ErrForm},
	} {
		if got := option.Check(c.o); got != c.want {
			t.Errorf("Check(%+v): %d, not %d", c.o, got, c.want)
		}
	}
}

// Of every combination: how many bytes there are, whether there is room, and whether they are written.
func TestSizeAndRoom(t *testing.T) {
	full := 0
	for _, o := range each() {
		size, e := room(o), api.OK
		if size > 40 || len(o.Blocks) > 4 {
			e = api.ErrLong
		}
		if len(o.Blocks) > 4 {
			size = 0
		}
		if got := option.Size(o); got != size {
			t.Errorf("Size(%+v): %d, not %d", o, got, size)
		}
		if got := option.Check(o); got != e {
			t.Errorf("Check(%+v): %d, not %d", o, got, e)
		}
		b, got := option.Encode(o)
		if got != e || e == api.OK && len(b) != size || e != api.OK && len(b) != 0 {
			t.Errorf("Encode(%+v): %v, %d", o, b, got)
		}
		if e == api.OK && size == 40 {
			full++
		}
	}
	if full == 0 {
		t.Error("none has all the room")
	}
}

func TestSizeOfWhatMayNotBe(t *testing.T) {
	for _, c := range []struct {
		o    api.Options
		want int
	}{
		{api.Options{}, 0},
		{api.Options{Mss: -1}, 4},
		{api.Options{Mss: 65536}, 4},
		{api.Options{Mss: 1 << 32}, 4},
		{api.Options{Mss: math.MinInt}, 4},
		{api.Options{HasScale: true, Scale: 15}, 4},
		{api.Options{HasScale: true, Scale: -1}, 4},
		{api.Options{HasScale: true, Scale: 256, Permit: true}, 8},
		{api.Options{Mss: 70000, Ts: true, HasScale: true, Blocks: blocks(1)}, 28},
		{api.Options{Scale: 5}, 0},
		{api.Options{Val: 5, Ecr: 6}, 0},
		{api.Options{Mss: -1, Blocks: blocks(5)}, 0},
		{api.Options{Mss: 5, Permit: true, Ts: true, Blocks: blocks(5)}, 0},
		{api.Options{Ts: true, Blocks: make([]api.Block, 100)}, 0},
		{api.Options{Ts: true, Blocks: blocks(4)}, 44},
		{api.Options{Mss: 5, Permit: true, Ts: true, HasScale: true, Blocks: blocks(4)}, 56},
	} {
		if got := option.Size(c.o); got != c.want {
			t.Errorf("Size(%+v): %d, not %d", c.o, got, c.want)
		}
	}
}

func TestEncode(t *testing.T) {
	for _, c := range []struct {
		o    api.Options
		want []byte
	}{
		{api.Options{}, nil},
		{api.Options{Blocks: []api.Block{}}, nil},
		{api.Options{Mss: 1460}, []byte{2, 4, 5, 180}},
		{api.Options{Mss: 1}, []byte{2, 4, 0, 1}},
		{api.Options{Mss: 65535}, []byte{2, 4, 255, 255}},
		{api.Options{Permit: true}, []byte{4, 2, 0, 0}},
		{api.Options{HasScale: true}, []byte{3, 3, 0, 0}},
		{api.Options{HasScale: true, Scale: 14}, []byte{3, 3, 14, 0}},
		{api.Options{Ts: true}, []byte{8, 10, 0, 0, 0, 0, 0, 0, 0, 0, 0, 0}},
		{api.Options{Ts: true, Val: 0x01020304, Ecr: 0xfffefdfc}, []byte{8, 10, 1, 2, 3, 4, 255, 254, 253, 252, 0, 0}},
		{api.Options{Permit: true, Blocks: []api.Block{{Left: 1, Right: 2}}}, []byte{4, 2, 5, 10, 0, 0, 0, 1, 0, 0, 0, 2}},
		{
			api.Options{Blocks: []api.Block{{Left: 0x01020304, Right: 0x05060708}, {Left: 0xfffefdfc, Right: 0}}},
			[]byte{5, 18, 1, 2, 3, 4, 5, 6, 7, 8, 255, 254, 253, 252, 0, 0, 0, 0, 0, 0},
		},
		{
			api.Options{Mss: 258, Permit: true, Ts: true, Val: 1, Ecr: 2, HasScale: true, Scale: 3, Blocks: []api.Block{{Left: 4, Right: 5}}},
			[]byte{2, 4, 1, 2, 4, 2, 8, 10, 0, 0, 0, 1, 0, 0, 0, 2, 3, 3, 3, 5, 10, 0, 0, 0, 4, 0, 0, 0, 5, 0, 0, 0},
		},
		{
			api.Options{Blocks: []api.Block{{Left: 1}, {Left: 2}, {Left: 3}, {Left: 4}}},
			[]byte{5, 34, 0, 0, 0, 1, 0, 0, 0, 0, 0, 0, 0, 2, 0, 0, 0, 0, 0, 0, 0, 3, 0, 0, 0, 0, 0, 0, 0, 4, 0, 0, 0, 0, 0, 0},
		},
	} {
		if got, e := option.Encode(c.o); !slices.Equal(got, c.want) || e != api.OK {
			t.Errorf("Encode(%+v): %v, %d, not %v", c.o, got, e, c.want)
		}
	}
}

func TestEncodeTellsTheErrorOfCheck(t *testing.T) {
	for _, o := range []api.Options{
		{Mss: -1}, {Mss: 65536}, {Mss: 1 << 32}, {HasScale: true, Scale: 15}, {HasScale: true, Scale: -1},
		{Scale: 3}, {Val: 1}, {Ecr: 1},
		{Blocks: blocks(5)}, {Ts: true, Blocks: blocks(4)}, {Mss: 5, HasScale: true, Blocks: blocks(4)},
		{Mss: -1, Scale: 3, Blocks: blocks(5)}, {Scale: 3, Blocks: blocks(5)},
	} {
		want := option.Check(o)
		if b, e := option.Encode(o); len(b) != 0 || e != want || e == api.OK {
			t.Errorf("Encode(%+v): %v, %d, not %d", o, b, e, want)
		}
	}
}

// P4.4
func TestWhatIsWrittenIsRead(t *testing.T) {
	r := rand.New(rand.NewSource(1))
	all := each()
	for range 5000 {
		all = append(all, some(r))
	}
	for _, o := range all {
		b, e := option.Encode(o)
		if e != api.OK {
			continue
		}
		if got, e := option.Parse(b); !option.Same(got, o) || e != api.OK {
			t.Fatalf("%+v is read as %+v, %d", o, got, e)
		}
		if len(b) != option.Size(o) || len(b)%4 != 0 {
			t.Fatalf("%+v has %d bytes, and Size is %d", o, len(b), option.Size(o))
		}
	}
}

func TestSame(t *testing.T) {
	full := func() api.Options {
		return api.Options{Mss: 1, Permit: true, Ts: true, Val: 2, Ecr: 3, HasScale: true, Scale: 4, Blocks: []api.Block{{Left: 5, Right: 6}, {Left: 7, Right: 8}}}
	}
	if !option.Same(full(), full()) || !option.Same(api.Options{}, api.Options{}) {
		t.Error("what is the same is told apart")
	}
	if option.Same(full(), api.Options{}) || option.Same(api.Options{}, full()) {
		t.Error("all and nothing are told to be the same")
	}
	for i, change := range []func(o *api.Options){
		func(o *api.Options) { o.Mss = 2 },
		func(o *api.Options) { o.Mss = 0 },
		func(o *api.Options) { o.Mss = 65537 },
		func(o *api.Options) { o.Permit = false },
		func(o *api.Options) { o.Ts = false },
		func(o *api.Options) { o.Val = 3 },
		func(o *api.Options) { o.Ecr = 2 },
		func(o *api.Options) { o.HasScale = false },
		func(o *api.Options) { o.Scale = 5 },
		func(o *api.Options) { o.Scale = 260 },
		func(o *api.Options) { o.Blocks = nil },
		func(o *api.Options) { o.Blocks = o.Blocks[:1] },
		func(o *api.Options) { o.Blocks = append(o.Blocks, api.Block{}) },
		func(o *api.Options) { o.Blocks[0].Left = 6 },
		func(o *api.Options) { o.Blocks[0].Right = 5 },
		func(o *api.Options) { o.Blocks[1].Left = 8 },
		func(o *api.Options) { o.Blocks[1].Right = 7 },
		func(o *api.Options) { slices.Reverse(o.Blocks) },
	} {
		o := full()
		change(&o)
		if option.Same(o, full()) || option.Same(full(), o) {
			t.Errorf("change %d is not told", i)
		}
		if !option.Same(o, o) {
			t.Errorf("change %d: it is not itself", i)
		}
	}
}

func TestSameTakesNoBlocksAndNilForOne(t *testing.T) {
	none, empty := api.Options{Mss: 5}, api.Options{Mss: 5, Blocks: []api.Block{}}
	behind := api.Options{Mss: 5, Blocks: blocks(3)[:0]}
	if !option.Same(none, empty) || !option.Same(empty, none) || !option.Same(behind, none) || !option.Same(empty, behind) {
		t.Error("no blocks and nil are told apart")
	}
}

func TestSameLooksNoFurtherThanTheList(t *testing.T) {
	a, b := blocks(3), blocks(3)
	a[2].Left = 99
	if !option.Same(api.Options{Blocks: a[:2]}, api.Options{Blocks: b[:2]}) {
		t.Error("what lies behind a list's length is looked at")
	}
}

func TestClone(t *testing.T) {
	r := rand.New(rand.NewSource(2))
	all := append(each(), api.Options{Mss: -1, Scale: 99, Val: 3, Ecr: 4}, api.Options{Blocks: []api.Block{}})
	for range 100 {
		all = append(all, some(r))
	}
	for _, o := range all {
		if got := option.Clone(o); !option.Same(got, o) || len(got.Blocks) != len(o.Blocks) {
			t.Errorf("Clone(%+v): %+v", o, got)
		}
	}
}

func TestCloneHasMemoryOfItsOwn(t *testing.T) {
	mem := blocks(4)
	was := slices.Clone(mem)
	o := api.Options{Blocks: mem[:2]}
	c := option.Clone(o)
	c.Blocks[0].Left = 99
	c.Blocks = append(c.Blocks, api.Block{Left: 98})
	if !slices.Equal(mem, was) {
		t.Errorf("what is done to the clone is seen: %v", mem)
	}
	c = option.Clone(o)
	mem[1].Right = 97
	if !slices.Equal(c.Blocks, was[:2]) {
		t.Errorf("what is done is seen in the clone: %v", c.Blocks)
	}
	empty := option.Clone(api.Options{Blocks: mem[:0]})
	empty.Blocks = append(empty.Blocks, api.Block{Left: 96})
	if mem[0] != was[0] {
		t.Errorf("what is done to the clone is seen: %v", mem)
	}
}

func TestOptionsStayAsTheyAre(t *testing.T) {
	mem := blocks(4)
	was := slices.Clone(mem)
	o := api.Options{Mss: 5, Blocks: mem[:2]}
	option.Check(o)
	if got := option.Size(o); got != 24 {
		t.Error(got)
	}
	a, _ := option.Encode(o)
	b, _ := option.Encode(o)
	clear(a)
	if len(b) != 24 || b[0] != 2 || b[4] != 5 {
		t.Errorf("two answers share their memory: %v", b)
	}
	if !slices.Equal(mem, was) {
		t.Error(mem)
	}
}
