package loop_test

import (
	"bytes"
	"math"
	"reflect"
	"slices"
	"testing"

	"undertow/api"
	"undertow/duct"
	"undertow/loop"
	"undertow/sender"
)

// The calls with the types that the chapter lists.
var (
	_ func(api.Config) (*loop.Loop, api.Errno) = loop.New
	_ func(*loop.Loop, loop.Op) api.Errno      = (*loop.Loop).Do
	_ func(*loop.Loop) sender.State            = (*loop.Loop).State
	_ func(*loop.Loop) []byte                  = (*loop.Loop).Text
	_ func(*loop.Loop) []loop.Trans            = (*loop.Loop).Trans
	_ func(*loop.Loop) []loop.Mark             = (*loop.Loop).Marks
	_ func(*loop.Loop) []loop.Answer           = (*loop.Loop).Answers
	_ func(*loop.Loop, int) (duct.Fate, bool)  = (*loop.Loop).Data
	_ func(*loop.Loop, int) (duct.Fate, bool)  = (*loop.Loop).Back
	_ func(*loop.Loop) (int, int)              = (*loop.Loop).Flying
	_ func(*loop.Loop) *loop.Loop              = (*loop.Loop).Clone
	_ [8]int                                   = [...]int{loop.Write, loop.Tick, loop.Data, loop.DropData, loop.CopyData, loop.Back, loop.DropBack, loop.CopyBack}
	_ struct {
		Kind, N int
		B       []byte
	} = loop.Op{}
	_ struct {
		Kind   int
		Span   api.Span
		At, Id int
	} = loop.Trans{}
	_ struct {
		Span      api.Span
		At, Trans int
		Timer     bool
	} = loop.Mark{}
	_ struct {
		At, Id int
		IsDup  bool
	} = loop.Answer{}
)

// What a loop is made of is none of its own calls.
func TestALoopHasNoOtherCalls(t *testing.T) {
	var got []string
	for m := range reflect.TypeFor[*loop.Loop]().Methods() {
		got = append(got, m.Name)
	}
	slices.Sort(got)
	if want := []string{"Answers", "Back", "Clone", "Data", "Do", "Flying", "Marks", "State", "Text", "Trans"}; !slices.Equal(got, want) {
		t.Error(got)
	}
	for _, f := range reflect.VisibleFields(reflect.TypeFor[loop.Loop]()) {
		if f.IsExported() {
			t.Errorf("field %s", f.Name)
		}
	}
}

// P26.1: the kinds by their numbers.
func TestKinds(t *testing.T) {
	got := []int{loop.Write, loop.Tick, loop.Data, loop.DropData, loop.CopyData, loop.Back, loop.DropBack, loop.CopyBack}
	if !slices.Equal(got, []int{0, 1, 2, 3, 4, 5, 6, 7}) {
		t.Error(got)
	}
}

// text is the bytes of a span of all that is written.
func text(from, to int) []byte {
	var p []byte
	for off := from; off < to; off++ {
		p = append(p, byte(31*off+off/251))
	}
	return p
}

// to is a span.
func to(from, to int) api.Span { return api.Span{From: from, To: to} }

// fresh, again and tail are transmissions of each kind.
func fresh(from, end, at, id int) loop.Trans { return loop.Trans{api.SendNew, to(from, end), at, id} }
func again(from, end, at, id int) loop.Trans { return loop.Trans{api.SendAgain, to(from, end), at, id} }
func tail(from, end, at, id int) loop.Trans  { return loop.Trans{api.SendProbe, to(from, end), at, id} }

// small is a configuration in which few segments are all.
func small() api.Config {
	return api.Config{Mss: 10, Buffer: 100, Start: 20, Most: 1000, MinRto: 100, MaxRto: 10000}
}

// plain is one with room for more, whose numbers go round early.
func plain() api.Config {
	return api.Config{First: 4294967280, Mss: 10, Buffer: 1000, Start: 100, Most: 1000, MinRto: 100, MaxRto: 100000}
}

// tiny is one of segments of one byte each, as many as may be.
func tiny() api.Config {
	return api.Config{First: 4294967290, Mss: 1, Buffer: 1 << 16, Start: 1 << 20, Most: 1 << 20, MinRto: 100, MaxRto: 100000}
}

// of is a loop in which nothing was done.
func of(t *testing.T, c api.Config) *loop.Loop {
	t.Helper()
	l, e := loop.New(c)
	if l == nil || e != api.OK {
		t.Fatalf("New(%+v): %v, %d", c, l, e)
	}
	return l
}

// side is a loop, and how much of what the ghost notes was looked at.
type side struct {
	t                     *testing.T
	l                     *loop.Loop
	trans, marks, answers int
}

func start(t *testing.T, c api.Config) *side {
	t.Helper()
	return &side{t: t, l: of(t, c)}
}

// fails does an operation, and fails if it answers another error.
func (x *side) fails(o loop.Op, want api.Errno) {
	x.t.Helper()
	if e := x.l.Do(o); e != want {
		x.t.Fatalf("kind %d of %d: %d, not %d", o.Kind, o.N, e, want)
	}
}

// do does an operation.
func (x *side) do(kind, n int) {
	x.t.Helper()
	x.fails(loop.Op{Kind: kind, N: n}, api.OK)
}

// write writes what comes next of all that is written.
func (x *side) write(n int) {
	x.t.Helper()
	end := x.l.State().End
	x.fails(loop.Op{B: text(end, end+n)}, api.OK)
}

// went fails if other transmissions were noted since the last look.
func (x *side) went(want ...loop.Trans) {
	x.t.Helper()
	all := x.l.Trans()
	if got := all[x.trans:]; !slices.Equal(got, want) {
		x.t.Fatalf("transmissions %+v, not %+v", got, want)
	}
	x.trans = len(all)
}

// marked fails if other marks were noted since the last look.
func (x *side) marked(want ...loop.Mark) {
	x.t.Helper()
	all := x.l.Marks()
	if got := all[x.marks:]; !slices.Equal(got, want) {
		x.t.Fatalf("marks %+v, not %+v", got, want)
	}
	x.marks = len(all)
}

// answered fails if other answers were noted since the last look.
func (x *side) answered(want ...loop.Answer) {
	x.t.Helper()
	all := x.l.Answers()
	if got := all[x.answers:]; !slices.Equal(got, want) {
		x.t.Fatalf("answers %+v, not %+v", got, want)
	}
	x.answers = len(all)
}

// fly fails if others are under way.
func (x *side) fly(data, back int) {
	x.t.Helper()
	if d, b := x.l.Flying(); d != data || b != back {
		x.t.Fatalf("under way are %d and %d, not %d and %d", d, b, data, back)
	}
}

// heard fails if the receiver has something else in order.
func (x *side) heard(n int) {
	x.t.Helper()
	if got := x.l.Text(); !bytes.Equal(got, text(0, n)) {
		x.t.Fatalf("text %v, not %v", got, text(0, n))
	}
}

// data fails if something else became of a copy of data.
func (x *side) data(id int, want duct.Fate) {
	x.t.Helper()
	if f, ok := x.l.Data(id); f != want || !ok {
		x.t.Fatalf("of %d became %+v, %v, not %+v", id, f, ok, want)
	}
}

// back fails if something else became of a copy of an answer.
func (x *side) back(id int, want duct.Fate) {
	x.t.Helper()
	if f, ok := x.l.Back(id); f != want || !ok {
		x.t.Fatalf("of answer %d became %+v, %v, not %+v", id, f, ok, want)
	}
}

// unchanged does something that is refused, and fails if it changed anything.
func (x *side) unchanged(o loop.Op, want api.Errno) {
	x.t.Helper()
	ahead := told(x.l)
	x.fails(o, want)
	if behind := told(x.l); !reflect.DeepEqual(ahead, behind) {
		x.t.Fatalf("kind %d of %d was refused, and changed\n%+v to\n%+v", o.Kind, o.N, ahead, behind)
	}
}

// all is all that a loop tells.
type all struct {
	state        sender.State
	text         []byte
	trans        []loop.Trans
	marks        []loop.Mark
	answers      []loop.Answer
	data, back   []duct.Fate
	flies, comes int
}

// told is all that a loop tells, in memory of its own.
func told(l *loop.Loop) all {
	a := all{state: l.State(), text: slices.Clone(l.Text()), trans: slices.Clone(l.Trans()), marks: slices.Clone(l.Marks()), answers: slices.Clone(l.Answers())}
	a.data, a.back = fates(l.Data), fates(l.Back)
	a.flies, a.comes = l.Flying()
	return a
}

// fates is what became of all copies of a duct.
func fates(of func(int) (duct.Fate, bool)) []duct.Fate {
	var l []duct.Fate
	for id := 0; ; id++ {
		f, ok := of(id)
		if !ok {
			return l
		}
		l = append(l, f)
	}
}

// P26.1: of a configuration that may not be there is no loop; of others there is one in which nothing was done.
func TestNew(t *testing.T) {
	for i, change := range []func(c *api.Config){
		func(c *api.Config) { c.Mss = 0 },
		func(c *api.Config) { c.Mss = 2049 },
		func(c *api.Config) { c.Buffer = 0 },
		func(c *api.Config) { c.Buffer = 1<<16 + 1 },
		func(c *api.Config) { c.Start = 9 },
		func(c *api.Config) { c.Start = 1001 },
		func(c *api.Config) { c.Most = 1<<20 + 1 },
		func(c *api.Config) { c.MinRto = 0 },
		func(c *api.Config) { c.MinRto = 10001 },
		func(c *api.Config) { c.MaxRto = 1<<36 + 1 },
		func(c *api.Config) { c.Floor = -1 },
		func(c *api.Config) { *c = api.Config{} },
		func(c *api.Config) { c.Mss = math.MinInt },
	} {
		c := small()
		change(&c)
		if l, e := loop.New(c); l != nil || e != api.ErrArg {
			t.Errorf("%d: New: %v, %d", i, l, e)
		}
	}
	for _, c := range []api.Config{small(), plain(), tiny()} {
		x := start(t, c)
		s, _ := sender.New(c)
		if got := told(x.l); !reflect.DeepEqual(got, all{state: s.State()}) {
			t.Errorf("%+v", got)
		}
		for _, kind := range []int{loop.Data, loop.DropData, loop.CopyData, loop.Back, loop.DropBack, loop.CopyBack} {
			x.unchanged(loop.Op{Kind: kind}, api.ErrNone)
		}
	}
}

// The example of the chapter.
func TestTheExample(t *testing.T) {
	x := start(t, small())
	x.write(30)
	x.went(fresh(0, 10, 0, 0), fresh(10, 20, 0, 1))
	x.fly(2, 0)
	x.do(loop.Data, 0)
	x.answered(loop.Answer{})
	x.went()
	x.fly(1, 1)
	x.heard(10)
	x.do(loop.Back, 0)
	x.went(fresh(20, 30, 0, 2))
	x.marked()
	x.answered()
	x.fly(2, 0)
	if s := x.l.State(); s.Una != 10 || s.Nxt != 30 {
		t.Fatalf("%+v", s)
	}
}

// P26.1, P26.3: what goes by time is put under way at the time that it is then; so is what is answered.
func TestTimes(t *testing.T) {
	x := start(t, small())
	x.do(loop.Tick, 7)
	x.write(30)
	x.went(fresh(0, 10, 7, 0), fresh(10, 20, 7, 1))
	x.do(loop.Tick, 5)
	x.do(loop.Data, 1)
	x.do(loop.Tick, 2)
	x.do(loop.Data, 0)
	x.answered(loop.Answer{At: 12, Id: 0}, loop.Answer{At: 14, Id: 1})
	x.do(loop.Tick, 3)
	x.do(loop.DropBack, 0)
	x.do(loop.Tick, 4)
	x.do(loop.Back, 0)
	x.went(fresh(20, 30, 21, 2))
	x.data(0, duct.Fate{Of: 0, At: 7, End: 14, Kind: duct.Came})
	x.data(1, duct.Fate{Of: 1, At: 7, End: 12, Kind: duct.Came})
	x.data(2, duct.Fate{Of: 2, At: 21})
	x.back(0, duct.Fate{Of: 0, At: 12, End: 17, Kind: duct.Dropped})
	x.back(1, duct.Fate{Of: 1, At: 14, End: 21, Kind: duct.Came})
	x.heard(20)
	for _, id := range []int{-1, 3, 4, math.MaxInt, math.MinInt} {
		if f, ok := x.l.Data(id); ok || f != (duct.Fate{}) {
			t.Error(id, f)
		}
		if f, ok := x.l.Back(id - 1); ok || f != (duct.Fate{}) {
			t.Error(id-1, f)
		}
	}
	// What goes by a tick goes when all its time has gone by.
	x.do(loop.Tick, 50)
	x.went(tail(20, 30, 71, 3))
}

// P26.1: a kind that there is not is refused, whatever it is told.
func TestNoSuchKind(t *testing.T) {
	x := start(t, small())
	x.write(30)
	x.do(loop.Data, 0)
	for _, kind := range []int{-1, 8, 9, 256, -8, 1 << 32, math.MaxInt, math.MinInt} {
		x.unchanged(loop.Op{Kind: kind}, api.ErrKind)
		x.unchanged(loop.Op{Kind: kind, N: -5, B: make([]byte, 1000)}, api.ErrKind)
	}
}

// P26.1: what the sender refuses changes nothing.
func TestTheSenderRefuses(t *testing.T) {
	x := start(t, small())
	x.write(60)
	x.do(loop.Data, 1)
	x.do(loop.Tick, 5)
	x.unchanged(loop.Op{B: make([]byte, 41)}, api.ErrFull)
	x.unchanged(loop.Op{B: make([]byte, 1<<17), N: 3}, api.ErrFull)
	for _, dt := range []int{-1, math.MinInt, api.MaxOff - 4, math.MaxInt} {
		x.unchanged(loop.Op{Kind: loop.Tick, N: dt}, api.ErrRange)
	}
	// What an operation has no use for is not looked at.
	x.fails(loop.Op{Kind: loop.Write, N: math.MinInt, B: text(60, 61)}, api.OK)
	x.fails(loop.Op{Kind: loop.Tick, B: make([]byte, 1<<17)}, api.OK)
	x.fails(loop.Op{Kind: loop.Data, B: make([]byte, 1<<17)}, api.OK)
	x.write(39)
	x.heard(20)
}

// P26.1: the N-th copy is the one of which so many that are under way were put earlier.
func TestWhichCopy(t *testing.T) {
	for _, kind := range []int{loop.Data, loop.DropData, loop.CopyData} {
		x := start(t, plain())
		x.write(50)
		x.do(loop.DropData, 1)
		x.do(loop.DropData, 3)
		for _, n := range []int{-1, 3, 4, math.MaxInt, math.MinInt} {
			x.unchanged(loop.Op{Kind: kind, N: n}, api.ErrNone)
		}
		x.do(kind, 1)
		x.data(2, map[int]duct.Fate{
			loop.Data:     {Of: 2, Kind: duct.Came},
			loop.DropData: {Of: 2, Kind: duct.Dropped},
			loop.CopyData: {Of: 2, Kind: duct.Flying},
		}[kind])
		if _, ok := x.l.Data(5); ok != (kind == loop.CopyData) {
			t.Error(kind)
		}
	}
	for _, kind := range []int{loop.Back, loop.DropBack, loop.CopyBack} {
		x := start(t, plain())
		x.write(50)
		for range 5 {
			x.do(loop.Data, 0)
		}
		x.do(loop.DropBack, 1)
		x.do(loop.DropBack, 3)
		for _, n := range []int{-1, 3, 4, math.MaxInt, math.MinInt} {
			x.unchanged(loop.Op{Kind: kind, N: n}, api.ErrNone)
		}
		x.do(kind, 1)
		x.back(2, map[int]duct.Fate{
			loop.Back:     {Of: 2, Kind: duct.Came},
			loop.DropBack: {Of: 2, Kind: duct.Dropped},
			loop.CopyBack: {Of: 2, Kind: duct.Flying},
		}[kind])
		if _, ok := x.l.Back(5); ok != (kind == loop.CopyBack) {
			t.Error(kind)
		}
		if una := x.l.State().Una; (una == 30) != (kind == loop.Back) {
			t.Error(kind, una)
		}
	}
}

// P26.1: whether an answer tells that bytes came once more: such as are in order, and such as are above them.
func TestWhatCameOnceMore(t *testing.T) {
	x := start(t, plain())
	x.write(50)
	x.do(loop.CopyData, 0)
	x.do(loop.CopyData, 0)
	x.do(loop.CopyData, 3)
	x.do(loop.CopyData, 3)
	x.fly(9, 0)
	x.went(fresh(0, 10, 0, 0), fresh(10, 20, 0, 1), fresh(20, 30, 0, 2), fresh(30, 40, 0, 3), fresh(40, 50, 0, 4))
	x.data(8, duct.Fate{Of: 3})
	no := func(id int) loop.Answer { return loop.Answer{Id: id} }
	yes := func(id int) loop.Answer { return loop.Answer{Id: id, IsDup: true} }
	x.do(loop.Data, 3) // 30 to 40
	x.do(loop.Data, 6) // and once more
	x.answered(no(0), yes(1))
	x.do(loop.Data, 0) // 0 to 10
	x.do(loop.Data, 3) // and once more
	x.answered(no(2), yes(3))
	x.heard(10)
	x.do(loop.Data, 1) // 20 to 30
	x.do(loop.Data, 1) // 40 to 50
	x.do(loop.Data, 2) // 30 to 40 for the third time, between others
	x.answered(no(4), no(5), yes(6))
	x.do(loop.Data, 0) // 10 to 20
	x.heard(50)
	x.do(loop.Data, 0) // 0 to 10 for the third time
	x.answered(no(7), yes(8))
	x.fly(0, 9)
	// They came once more by copies of one transmission.
	x.do(loop.Back, 8)
	x.marked()
	if s := x.l.State(); s.Una != 50 || s.Bad != 0 {
		t.Errorf("%+v", s)
	}
}

// P26.1: what finds no room in the duct of data is lost; a transmission all the same.
func TestNoRoomForData(t *testing.T) {
	x := start(t, tiny())
	x.write(api.MaxFlight - 1)
	x.fly(api.MaxFlight-1, 0)
	x.do(loop.CopyData, 7)
	x.data(api.MaxFlight-1, duct.Fate{Of: 7})
	x.unchanged(loop.Op{Kind: loop.CopyData}, api.ErrFull)
	x.unchanged(loop.Op{Kind: loop.CopyData, N: api.MaxFlight}, api.ErrNone)
	x.trans = api.MaxFlight - 1
	x.write(2)
	x.went(fresh(4095, 4096, 0, -1), fresh(4096, 4097, 0, -1))
	x.fly(api.MaxFlight, 0)
	x.do(loop.DropData, 7)
	x.do(loop.Tick, 3)
	x.write(2)
	x.went(fresh(4097, 4098, 3, 4096), fresh(4098, 4099, 3, -1))
	x.data(4096, duct.Fate{Of: 4096, At: 3})
	if _, ok := x.l.Data(4097); ok {
		t.Error("a copy of what found no room")
	}
	// The last one of all comes: what was lost has its transmission all the same.
	x.do(loop.Data, api.MaxFlight-1)
	x.do(loop.Tick, 10)
	x.do(loop.Back, 0)
	var got []loop.Mark
	for _, m := range x.l.Marks() {
		if m.Span.From >= 4094 {
			got = append(got, m)
		}
	}
	if want := []loop.Mark{{to(4094, 4095), 13, 4094, false}, {to(4095, 4096), 13, 4095, false}, {to(4096, 4097), 13, 4096, false}}; !slices.Equal(got, want) {
		t.Errorf("%+v", got)
	}
}

// P26.1: what the receiver refuses has come; an answer that finds no room in the duct of answers is one all the same.
func TestNoRoomForAnswers(t *testing.T) {
	x := start(t, tiny())
	// Of each two segments the second one comes, so that each is a span of its own.
	for range 2 {
		x.write(api.MaxFlight)
		for i := range api.MaxFlight / 2 {
			x.do(loop.Data, i+1)
		}
		for range api.MaxFlight / 2 {
			x.do(loop.DropData, 0)
		}
	}
	x.fly(0, api.MaxFlight)
	x.answers = api.MaxFlight
	x.do(loop.Tick, 9)
	x.write(2)
	x.do(loop.CopyData, 0)
	x.fly(3, api.MaxFlight)
	// One more span is too many for the receiver.
	x.fails(loop.Op{Kind: loop.Data, N: 1}, api.ErrFull)
	x.answered()
	x.fly(2, api.MaxFlight)
	x.data(2*api.MaxFlight+1, duct.Fate{Of: 2*api.MaxFlight + 1, At: 9, End: 9, Kind: duct.Came})
	x.unchanged(loop.Op{Kind: loop.CopyBack}, api.ErrFull)
	// What touches another span is none more, but for its answer there is no room.
	x.do(loop.Data, 0)
	x.do(loop.Tick, 1)
	x.do(loop.Data, 0)
	x.answered(loop.Answer{At: 9, Id: -1}, loop.Answer{At: 10, Id: -1, IsDup: true})
	x.fly(0, api.MaxFlight)
	x.do(loop.DropBack, 5)
	x.do(loop.CopyBack, 5)
	x.back(api.MaxFlight, duct.Fate{Of: 6})
	x.heard(0)
}

// P26.1: an answer that the sender refuses has come.
func TestTheSenderRefusesAnAnswer(t *testing.T) {
	c := plain()
	c.Mss, c.Buffer, c.Start, c.Most = 2048, 1<<16, 1<<20, 1<<20
	x := start(t, c)
	x.write(c.Mss)
	x.do(loop.CopyData, 0)
	x.do(loop.Data, 0)
	for range 33 {
		x.write(c.Mss)
		x.do(loop.Data, 1)
		x.do(loop.Back, 1)
	}
	if s := x.l.State(); s.Una != 34*c.Mss {
		t.Fatalf("%+v", s)
	}
	x.do(loop.CopyBack, 0)
	x.do(loop.Tick, 5)
	// It is more than 65536 below what was acknowledged.
	want := told(x.l)
	x.fails(loop.Op{Kind: loop.Back}, api.ErrOld)
	want.state.Bad++
	want.back[0] = duct.Fate{Of: 0, At: 0, End: 5, Kind: duct.Came}
	want.comes--
	if got := told(x.l); !reflect.DeepEqual(got, want) {
		t.Errorf("%+v, not %+v", got, want)
	}
	// One that is not too far below is fine.
	x.do(loop.DropBack, 0)
	x.do(loop.Data, 0)
	x.do(loop.Back, 0)
	x.heard(34 * c.Mss)
}

// P26.3: of nil.
func TestOfNil(t *testing.T) {
	var l *loop.Loop
	for range 2 {
		for kind := -1; kind < 10; kind++ {
			for _, n := range []int{0, 1, -1, math.MaxInt, math.MinInt} {
				if e := l.Do(loop.Op{Kind: kind, N: n, B: []byte{1}}); e != api.ErrNil {
					t.Errorf("kind %d of %d: %d", kind, n, e)
				}
				if f, ok := l.Data(n); ok || f != (duct.Fate{}) {
					t.Error(n, f)
				}
				if f, ok := l.Back(n); ok || f != (duct.Fate{}) {
					t.Error(n, f)
				}
			}
		}
		if got := told(l); !reflect.DeepEqual(got, all{}) {
			t.Errorf("%+v", got)
		}
		if l.Clone() != nil {
			t.Error("a clone of nil")
		}
	}
}

// P1: nothing is promised of the zero value, but that no call panics.
func TestTheZeroValue(t *testing.T) {
	var zero loop.Loop
	for _, l := range []*loop.Loop{&zero, zero.Clone()} {
		for kind := -1; kind < 10; kind++ {
			for _, n := range []int{0, 1, -1} {
				l.Do(loop.Op{Kind: kind, N: n, B: []byte{1}})
			}
		}
		told(l)
	}
}

// P26.1: what is handed in is neither changed nor kept.
func TestNothingIsKept(t *testing.T) {
	x := start(t, small())
	b := append(text(0, 30), 91, 92)
	x.fails(loop.Op{B: b[:30]}, api.OK)
	if !bytes.Equal(b, append(text(0, 30), 91, 92)) {
		t.Error(b)
	}
	clear(b)
	x.do(loop.Data, 0)
	x.do(loop.Back, 0)
	x.do(loop.Data, 0)
	x.do(loop.Data, 0)
	x.heard(30)
}

// P26.3: what is asked is new memory, behind its length, too.
func TestWhatIsAskedIsNew(t *testing.T) {
	x := start(t, small())
	x.write(30)
	x.do(loop.Tick, 7)
	x.do(loop.Data, 0)
	x.do(loop.Back, 0)
	x.do(loop.Tick, 20000)
	want := told(x.l)
	if len(want.text) == 0 || len(want.trans) == 0 || len(want.marks) == 0 || len(want.answers) == 0 {
		t.Fatalf("%+v", want)
	}
	for range 2 {
		p, l, m, a := x.l.Text(), x.l.Trans(), x.l.Marks(), x.l.Answers()
		clear(p[:cap(p)])
		clear(l[:cap(l)])
		clear(m[:cap(m)])
		clear(a[:cap(a)])
		_ = append(p, 7)
		_ = append(l, fresh(1, 2, 3, 4))
		_ = append(m, loop.Mark{At: 7})
		_ = append(a, loop.Answer{At: 7})
		if got := told(x.l); !reflect.DeepEqual(got, want) {
			t.Fatalf("%+v, not %+v", got, want)
		}
	}
	x.do(loop.Data, 0)
	x.do(loop.Back, 0)
	if got := told(x.l); !slices.Equal(got.trans[:len(want.trans)], want.trans) || !slices.Equal(got.marks[:len(want.marks)], want.marks) || !slices.Equal(got.answers[:1], want.answers) {
		t.Errorf("%+v", got)
	}
}

// P26.3: a clone is the same, and goes its own way.
func TestClone(t *testing.T) {
	x := start(t, small())
	x.write(60)
	x.do(loop.Data, 0)
	x.do(loop.CopyBack, 0)
	x.do(loop.Back, 0)
	x.do(loop.Tick, 20000)
	c, d := &side{t: t, l: x.l.Clone()}, &side{t: t, l: x.l.Clone()}
	want := told(x.l)
	for _, y := range []*side{c, d} {
		if got := told(y.l); y.l == nil || y.l == x.l || !reflect.DeepEqual(got, want) {
			t.Fatalf("%+v, not %+v", got, want)
		}
	}
	goOn := func(y *side) all {
		y.do(loop.DropData, 0)
		y.do(loop.Data, 1)
		y.do(loop.CopyData, 0)
		y.do(loop.Back, 0)
		y.do(loop.Tick, 3)
		y.do(loop.DropBack, 0)
		y.write(20)
		y.do(loop.Tick, 50000)
		return told(y.l)
	}
	far := goOn(c)
	for _, y := range []*side{x, d} {
		if got := told(y.l); !reflect.DeepEqual(got, want) {
			t.Fatalf("%+v, not %+v", got, want)
		}
	}
	// The same is done to it, the same comes of it; also where others went their ways meanwhile.
	x.do(loop.Tick, 100000)
	x.do(loop.Data, 2)
	x.write(1)
	if got := goOn(d); !reflect.DeepEqual(got, far) {
		t.Errorf("%+v, not %+v", got, far)
	}
	if got := told(c.l); !reflect.DeepEqual(got, far) {
		t.Errorf("%+v, not %+v", got, far)
	}
	e := &side{t: t, l: of(t, small()).Clone()}
	e.write(30)
	e.do(loop.Data, 0)
	e.do(loop.Back, 0)
	e.went(fresh(0, 10, 0, 0), fresh(10, 20, 0, 1), fresh(20, 30, 0, 2))
	e.answered(loop.Answer{})
}
