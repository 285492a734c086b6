package duct_test

import (
	"bytes"
	"iter"
	"math"
	"reflect"
	"slices"
	"testing"

	"undertow/api"
	"undertow/duct"
)

// The calls with the types that the chapter lists.
var (
	_ func() *duct.Duct                              = duct.New
	_ func(*duct.Duct, []byte, int) (int, api.Errno) = (*duct.Duct).Put
	_ func(*duct.Duct, int, int) (int, api.Errno)    = (*duct.Duct).Double
	_ func(*duct.Duct, int, int) ([]byte, api.Errno) = (*duct.Duct).Take
	_ func(*duct.Duct, int, int) api.Errno           = (*duct.Duct).Drop
	_ func(*duct.Duct, int) (duct.Copy, bool)        = (*duct.Duct).Nth
	_ func(*duct.Duct) iter.Seq[duct.Copy]           = (*duct.Duct).Flying
	_ func(*duct.Duct) int                           = (*duct.Duct).Len
	_ func(*duct.Duct) int                           = (*duct.Duct).Total
	_ func(*duct.Duct, int) (duct.Fate, bool)        = (*duct.Duct).Fate
	_ func(*duct.Duct) *duct.Duct                    = (*duct.Duct).Clone
	_ struct{ Of, At, End, Kind int }                = duct.Fate{}
	_ struct {
		Id, Of, At int
		Raw        []byte
	} = duct.Copy{}
	_ [1]struct{} = [duct.Flying + 1]struct{}{}
	_ [2]struct{} = [duct.Came + 1]struct{}{}
	_ [3]struct{} = [duct.Dropped + 1]struct{}{}
)

// What the calls of a duct are made of are none of its own.
func TestADuctHasNoOtherCalls(t *testing.T) {
	var got []string
	for m := range reflect.TypeFor[*duct.Duct]().Methods() {
		got = append(got, m.Name)
	}
	slices.Sort(got)
	if want := []string{"Clone", "Double", "Drop", "Fate", "Flying", "Len", "Nth", "Put", "Take", "Total"}; !slices.Equal(got, want) {
		t.Error(got)
	}
	for _, f := range reflect.VisibleFields(reflect.TypeFor[duct.Duct]()) {
		if f.IsExported() {
			t.Errorf("field %s", f.Name)
		}
	}
}

// longest is how many bytes a copy may have.
const longest = 2096

// mustPut fails if putting bytes answers another number or another error.
func mustPut(t *testing.T, d *duct.Duct, raw []byte, now, id int, want api.Errno) {
	t.Helper()
	if got, e := d.Put(raw, now); got != id || e != want {
		t.Fatalf("Put of %d bytes at %d: %d, %d, not %d, %d", len(raw), now, got, e, id, want)
	}
}

// mustDouble fails if doubling a copy answers another number or another error.
func mustDouble(t *testing.T, d *duct.Duct, of, now, id int, want api.Errno) {
	t.Helper()
	if got, e := d.Double(of, now); got != id || e != want {
		t.Fatalf("Double(%d, %d): %d, %d, not %d, %d", of, now, got, e, id, want)
	}
}

// mustTake fails if taking a copy answers other bytes or another error.
func mustTake(t *testing.T, d *duct.Duct, id, now int, raw []byte, want api.Errno) {
	t.Helper()
	if got, e := d.Take(id, now); !bytes.Equal(got, raw) || e != want {
		t.Fatalf("Take(%d, %d): %v, %d, not %v, %d", id, now, got, e, raw, want)
	}
}

// mustDrop fails if dropping a copy answers another error.
func mustDrop(t *testing.T, d *duct.Duct, id, now int, want api.Errno) {
	t.Helper()
	if e := d.Drop(id, now); e != want {
		t.Fatalf("Drop(%d, %d): %d, not %d", id, now, e, want)
	}
}

// mustFate fails if something else became of a copy.
func mustFate(t *testing.T, d *duct.Duct, id int, want duct.Fate) {
	t.Helper()
	if got, ok := d.Fate(id); !ok || got != want {
		t.Fatalf("Fate(%d): %+v, %v, not %+v", id, got, ok, want)
	}
}

// alike is whether two copies are told alike.
func alike(a, b duct.Copy) bool {
	return a.Id == b.Id && a.Of == b.Of && a.At == b.At && bytes.Equal(a.Raw, b.Raw)
}

// mustFly fails if other copies are under way, or there were more or fewer in all.
func mustFly(t *testing.T, d *duct.Duct, total int, want ...duct.Copy) {
	t.Helper()
	if got := slices.Collect(d.Flying()); !slices.EqualFunc(got, want, alike) {
		t.Fatalf("Flying: %+v, not %+v", got, want)
	}
	if d.Len() != len(want) || d.Total() != total {
		t.Fatalf("Len %d, Total %d, not %d, %d", d.Len(), d.Total(), len(want), total)
	}
	for i, c := range want {
		if got, ok := d.Nth(i); !ok || !alike(got, c) {
			t.Fatalf("Nth(%d): %+v, %v, not %+v", i, got, ok, c)
		}
	}
	for _, i := range []int{-1, len(want), len(want) + 1, math.MaxInt, math.MinInt} {
		if got, ok := d.Nth(i); ok || !reflect.DeepEqual(got, duct.Copy{}) {
			t.Fatalf("Nth(%d): %+v, %v", i, got, ok)
		}
	}
	for _, id := range []int{-1, total, total + 1, math.MaxInt, math.MinInt} {
		if got, ok := d.Fate(id); ok || got != (duct.Fate{}) {
			t.Fatalf("Fate(%d): %+v, %v", id, got, ok)
		}
	}
}

// P25.1, P25.3: nothing is under way at first.
func TestNew(t *testing.T) {
	d := duct.New()
	mustFly(t, d, 0)
	for _, id := range []int{0, 1, -1, math.MaxInt, math.MinInt} {
		mustDouble(t, d, id, 0, 0, api.ErrNone)
		mustTake(t, d, id, 0, nil, api.ErrNone)
		mustDrop(t, d, id, 0, api.ErrNone)
	}
	mustFly(t, d, 0)
	if duct.New() == d {
		t.Error("one duct twice")
	}
}

// P25.1 to P25.3: the example of the chapter.
func TestTheExample(t *testing.T) {
	d := duct.New()
	mustPut(t, d, []byte{1, 2}, 5, 0, api.OK)
	mustDouble(t, d, 0, 5, 1, api.OK)
	mustTake(t, d, 1, 9, []byte{1, 2}, api.OK)
	mustFate(t, d, 1, duct.Fate{Of: 0, At: 5, End: 9, Kind: duct.Came})
	mustDrop(t, d, 1, 9, api.ErrNone)
	mustFate(t, d, 0, duct.Fate{Of: 0, At: 5, End: 0, Kind: duct.Flying})
	mustFly(t, d, 2, duct.Copy{Id: 0, Of: 0, At: 5, Raw: []byte{1, 2}})
}

// P25.1: copies are numbered from 0 on, in a row.
func TestPut(t *testing.T) {
	d := duct.New()
	mustPut(t, d, []byte{7}, 0, 0, api.OK)
	mustPut(t, d, []byte{8, 9}, 0, 1, api.OK)
	mustPut(t, d, nil, 4, 2, api.OK)
	mustPut(t, d, []byte{}, 4, 3, api.OK)
	mustPut(t, d, []byte{7}, 10, 4, api.OK)
	mustFly(t, d, 5,
		duct.Copy{Id: 0, Of: 0, At: 0, Raw: []byte{7}},
		duct.Copy{Id: 1, Of: 1, At: 0, Raw: []byte{8, 9}},
		duct.Copy{Id: 2, Of: 2, At: 4},
		duct.Copy{Id: 3, Of: 3, At: 4},
		duct.Copy{Id: 4, Of: 4, At: 10, Raw: []byte{7}})
	for id, at := range []int{0, 0, 4, 4, 10} {
		mustFate(t, d, id, duct.Fate{Of: id, At: at})
	}
}

// P25.1: how many bytes a copy may have.
func TestHowLong(t *testing.T) {
	d := duct.New()
	id := 0
	for _, n := range []int{0, 1, 8, 48, 2048, longest - 1, longest} {
		mustPut(t, d, bytes.Repeat([]byte{byte(n), 5}, n)[:n], id, id, api.OK)
		id++
	}
	for _, n := range []int{longest + 1, longest + 2, 5000, 1 << 20} {
		mustPut(t, d, make([]byte, n), 100, 0, api.ErrLong)
		mustPut(t, d, make([]byte, n), id-2, 0, api.ErrRange)
	}
	mustPut(t, d, nil, id-1, id, api.OK) // the time of what was too long is none
	if d.Total() != id+1 || d.Len() != id+1 {
		t.Error(d.Total(), d.Len())
	}
	mustTake(t, d, 6, id, bytes.Repeat([]byte{longest % 256, 5}, longest/2), api.OK)
}

// P25.1: what is doubled has the same bytes, Of and At, whenever it is doubled.
func TestDouble(t *testing.T) {
	d := duct.New()
	mustPut(t, d, []byte{1}, 2, 0, api.OK)
	mustPut(t, d, []byte{3, 4}, 5, 1, api.OK)
	mustDouble(t, d, 1, 9, 2, api.OK)
	mustDouble(t, d, 2, 9, 3, api.OK)
	mustDouble(t, d, 0, 12, 4, api.OK)
	mustDouble(t, d, 0, 13, 5, api.OK)
	mustFly(t, d, 6,
		duct.Copy{Id: 0, Of: 0, At: 2, Raw: []byte{1}},
		duct.Copy{Id: 1, Of: 1, At: 5, Raw: []byte{3, 4}},
		duct.Copy{Id: 2, Of: 1, At: 5, Raw: []byte{3, 4}},
		duct.Copy{Id: 3, Of: 1, At: 5, Raw: []byte{3, 4}},
		duct.Copy{Id: 4, Of: 0, At: 2, Raw: []byte{1}},
		duct.Copy{Id: 5, Of: 0, At: 2, Raw: []byte{1}})
	// One that came or was dropped can't be doubled, its doubles can.
	mustDrop(t, d, 1, 13, api.OK)
	mustTake(t, d, 0, 14, []byte{1}, api.OK)
	mustDouble(t, d, 1, 14, 0, api.ErrNone)
	mustDouble(t, d, 0, 14, 0, api.ErrNone)
	mustDouble(t, d, 3, 14, 6, api.OK)
	mustDouble(t, d, 5, 14, 7, api.OK)
	mustDouble(t, d, 8, 14, 0, api.ErrNone)
	mustDouble(t, d, -1, 14, 0, api.ErrNone)
	mustFate(t, d, 6, duct.Fate{Of: 1, At: 5})
	mustFate(t, d, 7, duct.Fate{Of: 0, At: 2})
	mustTake(t, d, 6, 20, []byte{3, 4}, api.OK)
	mustTake(t, d, 2, 20, []byte{3, 4}, api.OK)
	mustTake(t, d, 7, 20, []byte{1}, api.OK)
	mustDrop(t, d, 3, 20, api.OK)
	mustFly(t, d, 8, duct.Copy{Id: 4, Of: 0, At: 2, Raw: []byte{1}}, duct.Copy{Id: 5, Of: 0, At: 2, Raw: []byte{1}})
}

// P25.2, P25.3: what came or was dropped is under way no more, and its fate says so.
func TestTakeAndDrop(t *testing.T) {
	d := duct.New()
	for i := range 6 {
		mustPut(t, d, []byte{byte(i), 10}, i, i, api.OK)
	}
	mustTake(t, d, 2, 7, []byte{2, 10}, api.OK)
	mustDrop(t, d, 4, 8, api.OK)
	mustTake(t, d, 0, 8, []byte{0, 10}, api.OK)
	mustDrop(t, d, 5, 11, api.OK)
	for _, id := range []int{0, 2, 4, 5, 6, -1, math.MaxInt, math.MinInt} {
		mustTake(t, d, id, 20, nil, api.ErrNone)
		mustDrop(t, d, id, 20, api.ErrNone)
		mustDouble(t, d, id, 20, 0, api.ErrNone)
	}
	for id, want := range []duct.Fate{
		{Of: 0, At: 0, End: 8, Kind: duct.Came},
		{Of: 1, At: 1},
		{Of: 2, At: 2, End: 7, Kind: duct.Came},
		{Of: 3, At: 3},
		{Of: 4, At: 4, End: 8, Kind: duct.Dropped},
		{Of: 5, At: 5, End: 11, Kind: duct.Dropped},
	} {
		mustFate(t, d, id, want)
	}
	mustFly(t, d, 6, duct.Copy{Id: 1, Of: 1, At: 1, Raw: []byte{1, 10}}, duct.Copy{Id: 3, Of: 3, At: 3, Raw: []byte{3, 10}})
	// Numbers are not given twice.
	mustPut(t, d, nil, 11, 6, api.OK)
	mustDrop(t, d, 6, 11, api.OK)
	mustPut(t, d, nil, 11, 7, api.OK)
	mustDrop(t, d, 1, 11, api.OK)
	mustDrop(t, d, 3, 11, api.OK)
	mustTake(t, d, 7, 11, nil, api.OK)
	mustFly(t, d, 8)
	mustFate(t, d, 7, duct.Fate{Of: 7, At: 11, End: 11, Kind: duct.Came})
}

// P25.1, P25.2: no call is of a time below that of the last one that was fine, be it whichever.
func TestTimes(t *testing.T) {
	calls := []struct {
		name string
		call func(d *duct.Duct, id, now int) api.Errno
	}{
		{"Put", func(d *duct.Duct, _, now int) api.Errno { _, e := d.Put([]byte{1}, now); return e }},
		{"Double", func(d *duct.Duct, id, now int) api.Errno { _, e := d.Double(id, now); return e }},
		{"Take", func(d *duct.Duct, id, now int) api.Errno { _, e := d.Take(id, now); return e }},
		{"Drop", (*duct.Duct).Drop},
	}
	for _, first := range calls {
		for _, second := range calls {
			for _, c := range []struct {
				at, then int
				want     api.Errno
			}{
				{3, 3, api.OK}, {3, 4, api.OK}, {3, api.MaxOff, api.OK}, {api.MaxOff, api.MaxOff, api.OK},
				{3, 2, api.ErrRange}, {3, 0, api.ErrRange}, {3, -1, api.ErrRange}, {3, math.MinInt, api.ErrRange},
				{3, api.MaxOff + 1, api.ErrRange}, {3, math.MaxInt, api.ErrRange}, {api.MaxOff, api.MaxOff - 1, api.ErrRange}, {api.MaxOff, api.MaxOff + 1, api.ErrRange},
			} {
				d := duct.New()
				mustPut(t, d, []byte{7}, 0, 0, api.OK)
				mustPut(t, d, []byte{8}, 1, 1, api.OK)
				if e := first.call(d, 0, c.at); e != api.OK {
					t.Fatalf("%s at %d: %d", first.name, c.at, e)
				}
				n, total := d.Len(), d.Total()
				e := second.call(d, 1, c.then)
				if e != c.want {
					t.Errorf("%s at %d, %s at %d: %d, not %d", first.name, c.at, second.name, c.then, e, c.want)
				}
				if e != api.OK && (d.Len() != n || d.Total() != total) {
					t.Errorf("%s at %d changes something", second.name, c.then)
				}
				// An error's time is none; a number that there is not doesn't come ahead of it.
				if e != api.OK {
					if e := second.call(d, 77, c.then); e != c.want {
						t.Errorf("%s of none at %d: %d", second.name, c.then, e)
					}
					if e := second.call(d, 1, c.at); e != api.OK {
						t.Errorf("%s at %d, and %s at the same time: %d", first.name, c.at, second.name, e)
					}
				}
			}
		}
	}
}

// P25.1: the first time is 0 at least.
func TestTheFirstTime(t *testing.T) {
	d := duct.New()
	for _, now := range []int{-1, math.MinInt, api.MaxOff + 1, math.MaxInt} {
		mustPut(t, d, nil, now, 0, api.ErrRange)
		mustPut(t, d, make([]byte, 3000), now, 0, api.ErrRange)
		mustDouble(t, d, 0, now, 0, api.ErrRange)
		mustTake(t, d, 0, now, nil, api.ErrRange)
		mustDrop(t, d, 0, now, api.ErrRange)
	}
	mustFly(t, d, 0)
	mustPut(t, d, nil, 0, 0, api.OK)
	mustPut(t, d, nil, api.MaxOff, 1, api.OK)
}

// P25.1, P25.2: what is refused, of a copy that there is not too, does not set the time.
func TestRefusedSetsNoTime(t *testing.T) {
	d := duct.New()
	mustPut(t, d, nil, 5, 0, api.OK)
	mustPut(t, d, make([]byte, longest+1), 50, 0, api.ErrLong)
	mustDouble(t, d, 1, 60, 0, api.ErrNone)
	mustTake(t, d, 1, 70, nil, api.ErrNone)
	mustDrop(t, d, 1, 80, api.ErrNone)
	mustPut(t, d, nil, 4, 0, api.ErrRange)
	mustPut(t, d, nil, 5, 1, api.OK)
	// What is asked has no time.
	mustFly(t, d, 2, duct.Copy{Id: 0, Of: 0, At: 5}, duct.Copy{Id: 1, Of: 1, At: 5})
	mustTake(t, d, 0, 5, nil, api.OK)
}

// P25.1: 4096 may be under way.
func TestFull(t *testing.T) {
	d := duct.New()
	for i := range api.MaxFlight - 2 {
		mustPut(t, d, []byte{byte(i), byte(i >> 8)}, 3, i, api.OK)
	}
	mustDouble(t, d, 300, 3, api.MaxFlight-2, api.OK)
	mustPut(t, d, nil, 4, api.MaxFlight-1, api.OK)
	for range 2 {
		mustPut(t, d, nil, 9, 0, api.ErrFull)
		mustPut(t, d, make([]byte, longest), 9, 0, api.ErrFull)
		mustDouble(t, d, 0, 9, 0, api.ErrFull)
		// What is named first is told first.
		mustPut(t, d, make([]byte, longest+1), 9, 0, api.ErrLong)
		mustPut(t, d, nil, 3, 0, api.ErrRange)
		mustDouble(t, d, api.MaxFlight, 9, 0, api.ErrNone)
		mustDouble(t, d, 0, 3, 0, api.ErrRange)
		if d.Len() != api.MaxFlight || d.Total() != api.MaxFlight {
			t.Fatal(d.Len(), d.Total())
		}
	}
	if c, ok := d.Nth(api.MaxFlight - 2); !ok || !alike(c, duct.Copy{Id: api.MaxFlight - 2, Of: 300, At: 3, Raw: []byte{44, 1}}) {
		t.Error(c, ok)
	}
	// It had no time; and there is room for one, whatever became of the one that went.
	mustTake(t, d, 1000, 4, []byte{232, 3}, api.OK)
	mustDouble(t, d, 1, 4, api.MaxFlight, api.OK)
	mustDouble(t, d, 1, 4, 0, api.ErrFull)
	mustDrop(t, d, api.MaxFlight, 4, api.OK)
	mustPut(t, d, []byte{5}, 4, api.MaxFlight+1, api.OK)
	mustPut(t, d, []byte{5}, 4, 0, api.ErrFull)
	if c, ok := d.Nth(1000); !ok || c.Id != 1001 {
		t.Error(c, ok)
	}
	if c, ok := d.Nth(api.MaxFlight - 1); !ok || !alike(c, duct.Copy{Id: api.MaxFlight + 1, Of: api.MaxFlight + 1, At: 4, Raw: []byte{5}}) {
		t.Error(c, ok)
	}
	// There may be more in all, as long as they are not under way at a time.
	for range 2 * api.MaxFlight {
		c, _ := d.Nth(0)
		mustDrop(t, d, c.Id, 5, api.OK)
		mustPut(t, d, nil, 5, d.Total(), api.OK)
	}
	mustPut(t, d, nil, 5, 0, api.ErrFull)
	if d.Len() != api.MaxFlight || d.Total() != 3*api.MaxFlight+2 {
		t.Error(d.Len(), d.Total())
	}
}

// P25.3: one who goes through them may stop, and begin again.
func TestFlyingStops(t *testing.T) {
	d := duct.New()
	for i := range 5 {
		mustPut(t, d, []byte{byte(i)}, i, i, api.OK)
	}
	all := d.Flying()
	for stop := 1; stop <= 5; stop++ {
		var got []int
		for c := range all {
			got = append(got, c.Id)
			if len(got) == stop {
				break
			}
		}
		if !slices.Equal(got, []int{0, 1, 2, 3, 4}[:stop]) {
			t.Errorf("%d: %v", stop, got)
		}
	}
	// What it goes through is what is under way when it begins.
	mustDrop(t, d, 0, 5, api.OK)
	mustTake(t, d, 3, 5, []byte{3}, api.OK)
	mustPut(t, d, []byte{5}, 5, 5, api.OK)
	var got []int
	for c := range all {
		got = append(got, c.Id)
	}
	if !slices.Equal(got, []int{1, 2, 4, 5}) {
		t.Error(got)
	}
}

// P1: it ends, and does not panic, if something is changed meanwhile; one who takes each copy meets all, and none that went meanwhile.
func TestFlyingOfWhatIsChanged(t *testing.T) {
	d := duct.New()
	for i := range 5 {
		mustPut(t, d, []byte{byte(i)}, 0, i, api.OK)
	}
	c := d.Clone()
	n := 0
	for one := range d.Flying() {
		if f, _ := d.Fate(one.Id); f.Kind != duct.Flying {
			t.Error(one)
		}
		d.Drop(one.Id, 0)
		d.Drop(one.Id+1, 0)
		d.Put(one.Raw, 0)
		d.Put(one.Raw, 0)
		if n++; n > 100 {
			t.Fatal("no end")
		}
	}
	for one := range c.Flying() {
		mustTake(t, c, one.Id, 0, []byte{byte(one.Id)}, api.OK)
	}
	mustFly(t, c, 5)
}

// P25.3: of nil
func TestOfNil(t *testing.T) {
	var d *duct.Duct
	for range 2 {
		for _, now := range []int{0, 5, -1, math.MaxInt, math.MinInt} {
			for _, raw := range [][]byte{nil, {1}, make([]byte, 3000)} {
				mustPut(t, d, raw, now, 0, api.ErrNil)
			}
			for _, id := range []int{0, 1, -1, math.MaxInt, math.MinInt} {
				mustDouble(t, d, id, now, 0, api.ErrNil)
				mustTake(t, d, id, now, nil, api.ErrNil)
				mustDrop(t, d, id, now, api.ErrNil)
			}
		}
		mustFly(t, d, 0)
		if d.Clone() != nil {
			t.Error("a clone of nil")
		}
	}
}

// P1: nothing is promised of the zero value, but that no call panics.
func TestTheZeroValue(t *testing.T) {
	var zero duct.Duct
	for _, d := range []*duct.Duct{&zero, zero.Clone()} {
		d.Take(0, 0)
		d.Drop(0, 0)
		d.Double(0, 0)
		d.Nth(0)
		d.Fate(0)
		d.Put([]byte{1}, 0)
		d.Double(0, 1)
		d.Len()
		d.Total()
		_ = slices.Collect(d.Flying())
		d.Nth(0)
		d.Fate(0)
		d.Take(0, 2)
		d.Drop(1, 2)
	}
}

// P25.4: what is handed in is neither changed nor kept.
func TestPutKeepsNothing(t *testing.T) {
	d := duct.New()
	b := []byte{1, 2, 3, 91, 92}
	mustPut(t, d, b[:3], 0, 0, api.OK)
	if !bytes.Equal(b, []byte{1, 2, 3, 91, 92}) {
		t.Error(b)
	}
	mustDouble(t, d, 0, 0, 1, api.OK)
	clear(b)
	mustFly(t, d, 2, duct.Copy{Id: 0, Raw: []byte{1, 2, 3}}, duct.Copy{Id: 1, Raw: []byte{1, 2, 3}})
	mustTake(t, d, 0, 0, []byte{1, 2, 3}, api.OK)
	mustTake(t, d, 1, 0, []byte{1, 2, 3}, api.OK)
}

// P25.4: what is told is new memory, behind its length too, also where copies are of the same bytes.
func TestWhatIsToldIsNewMemory(t *testing.T) {
	d := duct.New()
	mustPut(t, d, []byte{1, 2, 3}, 0, 0, api.OK)
	mustDouble(t, d, 0, 0, 1, api.OK)
	mustDouble(t, d, 1, 0, 2, api.OK)
	c := d.Clone()
	spoil := func(raw []byte) {
		clear(raw[:cap(raw)])
		_ = append(raw, 77)
	}
	for range 2 {
		for i := range 3 {
			one, _ := d.Nth(i)
			spoil(one.Raw)
		}
		for one := range d.Flying() {
			spoil(one.Raw)
		}
	}
	for id := range 3 {
		raw, e := d.Take(id, 0)
		if e != api.OK || !bytes.Equal(raw, []byte{1, 2, 3}) {
			t.Error(id, raw, e)
		}
		spoil(raw)
	}
	same := []byte{1, 2, 3}
	mustFly(t, c, 3, duct.Copy{Id: 0, Raw: same}, duct.Copy{Id: 1, Raw: same}, duct.Copy{Id: 2, Raw: same})
}

// P25.3: a clone goes its own way.
func TestClone(t *testing.T) {
	d := duct.New()
	for i := range 4 {
		mustPut(t, d, []byte{byte(i)}, i, i, api.OK)
	}
	mustDrop(t, d, 1, 5, api.OK)
	c := d.Clone()
	if c == nil || c == d {
		t.Fatal("no clone")
	}
	zero, two, three := duct.Copy{Id: 0, Of: 0, At: 0, Raw: []byte{0}}, duct.Copy{Id: 2, Of: 2, At: 2, Raw: []byte{2}}, duct.Copy{Id: 3, Of: 3, At: 3, Raw: []byte{3}}
	mustFly(t, c, 4, zero, two, three)
	// It has the same time.
	mustPut(t, c, nil, 4, 0, api.ErrRange)
	mustTake(t, c, 0, 9, []byte{0}, api.OK)
	mustFly(t, d, 4, zero, two, three)
	mustFate(t, d, 0, duct.Fate{Of: 0, At: 0})
	mustDrop(t, d, 0, 6, api.OK)
	mustFate(t, d, 0, duct.Fate{Of: 0, At: 0, End: 6, Kind: duct.Dropped})
	mustFate(t, c, 0, duct.Fate{Of: 0, At: 0, End: 9, Kind: duct.Came})
	mustPut(t, d, []byte{40}, 7, 4, api.OK)
	mustDouble(t, c, 2, 9, 4, api.OK)
	mustDrop(t, c, 2, 9, api.OK)
	mustFly(t, d, 5, two, three, duct.Copy{Id: 4, Of: 4, At: 7, Raw: []byte{40}})
	mustFly(t, c, 5, three, duct.Copy{Id: 4, Of: 2, At: 2, Raw: []byte{2}})
	mustFate(t, c, 1, duct.Fate{Of: 1, At: 1, End: 5, Kind: duct.Dropped})
	mustFly(t, c.Clone().Clone(), 5, three, duct.Copy{Id: 4, Of: 2, At: 2, Raw: []byte{2}})
	mustFly(t, duct.New().Clone(), 0)
	e := duct.New().Clone()
	mustPut(t, e, []byte{1}, 0, 0, api.OK)
	mustTake(t, e, 0, 0, []byte{1}, api.OK)
}
