package option_test

import (
	"bytes"
	"math/rand"
	"slices"
	"testing"

	"undertow/api"
	"undertow/option"
)

// numbered is n bytes of 0, of which the first two are a kind and how many there are.
func numbered(kind byte, n int) []byte {
	b := make([]byte, n)
	b[0], b[1] = kind, byte(n)
	return b
}

func TestParse(t *testing.T) {
	for _, c := range []struct {
		b    []byte
		want api.Options
	}{
		{nil, api.Options{}},
		{[]byte{}, api.Options{}},
		{[]byte{2, 4, 5, 180}, api.Options{Mss: 1460}},
		{[]byte{2, 4, 255, 255}, api.Options{Mss: 65535}},
		{[]byte{2, 4, 0, 0}, api.Options{}},
		{[]byte{3, 3, 0}, api.Options{HasScale: true}},
		{[]byte{3, 3, 7}, api.Options{HasScale: true, Scale: 7}},
		{[]byte{3, 3, 14}, api.Options{HasScale: true, Scale: 14}},
		{[]byte{3, 3, 15}, api.Options{HasScale: true, Scale: 14}},
		{[]byte{3, 3, 255}, api.Options{HasScale: true, Scale: 14}},
		{[]byte{4, 2}, api.Options{Permit: true}},
		{[]byte{8, 10, 1, 2, 3, 4, 255, 254, 253, 252}, api.Options{Ts: true, Val: 0x01020304, Ecr: 0xfffefdfc}},
		{numbered(8, 10), api.Options{Ts: true}},
		{[]byte{5, 10, 1, 2, 3, 4, 255, 254, 253, 252}, api.Options{Blocks: []api.Block{{Left: 0x01020304, Right: 0xfffefdfc}}}},
		{[]byte{5, 18, 0, 0, 0, 9, 0, 0, 0, 2, 0, 0, 0, 3, 0, 0, 0, 3}, api.Options{Blocks: []api.Block{{Left: 9, Right: 2}, {Left: 3, Right: 3}}}},
		{numbered(5, 26), api.Options{Blocks: make([]api.Block, 3)}},
		{numbered(5, 34), api.Options{Blocks: make([]api.Block, 4)}},
		// In any order, and without anything behind them.
		{[]byte{5, 10, 0, 0, 0, 1, 0, 0, 0, 2, 3, 3, 5, 8, 10, 0, 0, 0, 3, 0, 0, 0, 4, 4, 2, 2, 4, 1, 0}, api.Options{
			Mss: 256, Permit: true, Ts: true, Val: 3, Ecr: 4, HasScale: true, Scale: 5, Blocks: []api.Block{{Left: 1, Right: 2}},
		}},
	} {
		if got, e := option.Parse(c.b); !option.Same(got, c.want) || e != api.OK {
			t.Errorf("Parse(%v): %+v, %d, not %+v", c.b, got, e, c.want)
		}
	}
}

func TestParseEnd(t *testing.T) {
	for _, c := range []struct {
		b    []byte
		want api.Options
	}{
		{[]byte{0}, api.Options{}},
		{[]byte{0, 0, 0, 0}, api.Options{}},
		{[]byte{0, 4, 2}, api.Options{}},
		{[]byte{0, 2}, api.Options{}},
		{[]byte{0, 2, 0}, api.Options{}},
		{[]byte{0, 2, 4, 5}, api.Options{}},
		{[]byte{0, 2, 3, 5}, api.Options{}},
		{[]byte{1, 0, 7, 0}, api.Options{}},
		{[]byte{4, 2, 0, 3, 3, 7}, api.Options{Permit: true}},
		{[]byte{2, 4, 0, 5, 0, 2, 4, 0, 6}, api.Options{Mss: 5}},
		{[]byte{2, 4, 0, 5, 0, 9}, api.Options{Mss: 5}},
		// A 0 within an option is no end.
		{[]byte{2, 4, 0, 5, 4, 2}, api.Options{Mss: 5, Permit: true}},
		{[]byte{6, 3, 0, 4, 2}, api.Options{Permit: true}},
	} {
		if got, e := option.Parse(c.b); !option.Same(got, c.want) || e != api.OK {
			t.Errorf("Parse(%v): %+v, %d, not %+v", c.b, got, e, c.want)
		}
	}
}

func TestParseErrors(t *testing.T) {
	for _, c := range []struct {
		b    []byte
		want api.Errno
	}{
		// The byte that says how many there are lacks.
		{[]byte{2}, api.ErrShort}, {[]byte{3}, api.ErrShort}, {[]byte{4}, api.ErrShort}, {[]byte{5}, api.ErrShort}, {[]byte{8}, api.ErrShort},
		{[]byte{6}, api.ErrShort}, {[]byte{7}, api.ErrShort}, {[]byte{255}, api.ErrShort}, {[]byte{4, 2, 2}, api.ErrShort}, {[]byte{1, 1, 9}, api.ErrShort},
		// It is below 2.
		{[]byte{2, 0}, api.ErrForm}, {[]byte{2, 1}, api.ErrForm}, {[]byte{2, 1, 5, 180}, api.ErrForm}, {[]byte{4, 0}, api.ErrForm}, {[]byte{4, 1}, api.ErrForm},
		{[]byte{6, 0}, api.ErrForm}, {[]byte{6, 1}, api.ErrForm}, {[]byte{255, 0, 0}, api.ErrForm}, {[]byte{255, 1, 0}, api.ErrForm},
		// There are fewer bytes than it says.
		{[]byte{2, 4, 5}, api.ErrShort}, {[]byte{2, 4}, api.ErrShort}, {[]byte{3, 3}, api.ErrShort}, {[]byte{8, 10, 0, 0, 0, 0, 0, 0, 0}, api.ErrShort},
		{[]byte{5, 10, 0, 0, 0, 0, 0, 0, 0}, api.ErrShort}, {[]byte{5, 18, 0, 0, 0, 0, 0, 0, 0, 0}, api.ErrShort},
		{[]byte{6, 3}, api.ErrShort}, {[]byte{6, 255}, api.ErrShort}, {[]byte{255, 4, 0}, api.ErrShort},
		// That is looked at ahead of the table's number.
		{[]byte{2, 5, 0, 0}, api.ErrShort}, {[]byte{4, 3}, api.ErrShort}, {[]byte{3, 255, 7}, api.ErrShort}, {[]byte{5, 3}, api.ErrShort}, {[]byte{5, 42, 0}, api.ErrShort},
		// The table has another number.
		{[]byte{2, 2}, api.ErrForm}, {[]byte{2, 3, 5}, api.ErrForm}, {[]byte{2, 5, 0, 0, 0}, api.ErrForm},
		{[]byte{3, 2}, api.ErrForm}, {[]byte{3, 4, 0, 0}, api.ErrForm}, {[]byte{4, 3, 0}, api.ErrForm}, {[]byte{4, 4, 0, 0}, api.ErrForm},
		{[]byte{5, 2}, api.ErrForm},
		// From the left.
		{[]byte{4, 3, 0, 2}, api.ErrForm}, {[]byte{2, 9, 4, 1}, api.ErrShort}, {[]byte{4, 2, 3, 1, 2}, api.ErrForm}, {[]byte{2, 3, 0, 3, 3}, api.ErrForm},
		{[]byte{2, 4, 5, 180, 4, 2, 3, 3}, api.ErrShort},
	} {
		if got, e := option.Parse(c.b); !option.Same(got, api.Options{}) || len(got.Blocks) != 0 || e != c.want {
			t.Errorf("Parse(%v): %+v, %d, not %d", c.b, got, e, c.want)
		}
	}
}

// Of each kind, each number of bytes that it may say it has.
func TestParseEachNumber(t *testing.T) {
	fits := map[byte][]int{2: {4}, 3: {3}, 4: {2}, 5: {10, 18, 26, 34}, 8: {10}}
	for kind := 2; kind < 256; kind++ {
		for n := 2; n <= 40; n++ {
			l, told := fits[byte(kind)]
			want := api.OK
			if told && !slices.Contains(l, n) {
				want = api.ErrForm
			}
			got, e := option.Parse(numbered(byte(kind), n))
			if e != want || (!told || e != api.OK) && !option.Same(got, api.Options{}) {
				t.Errorf("kind %d of %d bytes: %+v, %d, not %d", kind, n, got, e, want)
			}
			if n > 2 {
				if got, e := option.Parse(numbered(byte(kind), n)[:n-1]); e != api.ErrShort || !option.Same(got, api.Options{}) {
					t.Errorf("kind %d of %d bytes, one less: %+v, %d", kind, n, got, e)
				}
			}
		}
	}
}

func TestParseLong(t *testing.T) {
	full := slices.Concat([]byte{2, 4, 1, 0, 4, 2}, numbered(5, 34))
	if got, e := option.Parse(full); got.Mss != 256 || !got.Permit || len(got.Blocks) != 4 || e != api.OK {
		t.Error(got, e)
	}
	if got, e := option.Parse(bytes.Repeat([]byte{1}, 40)); !option.Same(got, api.Options{}) || e != api.OK {
		t.Error(got, e)
	}
	for _, b := range [][]byte{
		append(bytes.Clone(full), 0), append(bytes.Clone(full), 1), make([]byte, 41), bytes.Repeat([]byte{1}, 41), bytes.Repeat([]byte{4, 2}, 21),
		// Ahead of all other errors.
		bytes.Repeat([]byte{2, 1}, 21), bytes.Repeat([]byte{4, 255}, 50), bytes.Repeat([]byte{2}, 41), make([]byte, 1<<16),
	} {
		if got, e := option.Parse(b); !option.Same(got, api.Options{}) || e != api.ErrLong {
			t.Errorf("%d bytes: %+v, %d", len(b), got, e)
		}
	}
	if got, e := option.Parse(make([]byte, 41)[:40]); !option.Same(got, api.Options{}) || e != api.OK {
		t.Error(got, e)
	}
}

// Of one that comes twice the later one counts, whole.
func TestParseTheLaterOneCounts(t *testing.T) {
	two, one := []byte{5, 18, 0, 0, 0, 1, 0, 0, 0, 2, 0, 0, 0, 3, 0, 0, 0, 4}, []byte{5, 10, 0, 0, 0, 5, 0, 0, 0, 6}
	for _, c := range []struct {
		b    []byte
		want api.Options
	}{
		{[]byte{2, 4, 0, 5, 2, 4, 0, 6}, api.Options{Mss: 6}},
		{[]byte{2, 4, 0, 6, 2, 4, 0, 5}, api.Options{Mss: 5}},
		{[]byte{2, 4, 0, 6, 2, 4, 0, 0}, api.Options{}},
		{[]byte{2, 4, 0, 0, 2, 4, 0, 6}, api.Options{Mss: 6}},
		{[]byte{2, 4, 1, 2, 4, 2, 2, 4, 3, 0}, api.Options{Mss: 768, Permit: true}},
		{[]byte{3, 3, 7, 3, 3, 0}, api.Options{HasScale: true}},
		{[]byte{3, 3, 20, 3, 3, 2}, api.Options{HasScale: true, Scale: 2}},
		{[]byte{3, 3, 2, 3, 3, 20}, api.Options{HasScale: true, Scale: 14}},
		{[]byte{4, 2, 4, 2}, api.Options{Permit: true}},
		{[]byte{8, 10, 1, 0, 0, 0, 2, 0, 0, 0, 8, 10, 0, 0, 0, 0, 0, 0, 0, 0}, api.Options{Ts: true}},
		{[]byte{8, 10, 1, 0, 0, 0, 2, 0, 0, 0, 8, 10, 0, 0, 0, 3, 0, 0, 0, 0}, api.Options{Ts: true, Val: 3}},
		{slices.Concat(two, one), api.Options{Blocks: []api.Block{{Left: 5, Right: 6}}}},
		{slices.Concat(one, two), api.Options{Blocks: []api.Block{{Left: 1, Right: 2}, {Left: 3, Right: 4}}}},
		{slices.Concat(one, []byte{4, 2}, one), api.Options{Permit: true, Blocks: []api.Block{{Left: 5, Right: 6}}}},
		{slices.Concat(one, two, one), api.Options{Blocks: []api.Block{{Left: 5, Right: 6}}}},
	} {
		if got, e := option.Parse(c.b); !option.Same(got, c.want) || e != api.OK {
			t.Errorf("Parse(%v): %+v, %d, not %+v", c.b, got, e, c.want)
		}
	}
}

// An error of the later one is one, though the earlier one was fine.
func TestParseTheLaterOneMayBeWrong(t *testing.T) {
	if got, e := option.Parse([]byte{2, 4, 0, 5, 2, 3, 0}); !option.Same(got, api.Options{}) || e != api.ErrForm {
		t.Error(got, e)
	}
	if got, e := option.Parse([]byte{2, 4, 0, 5, 2, 4, 0}); !option.Same(got, api.Options{}) || e != api.ErrShort {
		t.Error(got, e)
	}
}

// read is what bytes say, told step by step from the chapter's table.
func read(b []byte) (o api.Options, e api.Errno) {
	if len(b) > 40 {
		return o, api.ErrLong
	}
	four := func(b []byte) uint32 { return uint32(b[0])<<24 | uint32(b[1])<<16 | uint32(b[2])<<8 | uint32(b[3]) }
	for i := 0; i < len(b) && b[i] != 0; {
		if b[i] == 1 {
			i++
			continue
		}
		if i+1 == len(b) {
			return api.Options{}, api.ErrShort
		}
		n := int(b[i+1])
		if n < 2 {
			return api.Options{}, api.ErrForm
		}
		if i+n > len(b) {
			return api.Options{}, api.ErrShort
		}
		one := b[i : i+n]
		wrong := false
		switch one[0] {
		case 2:
			if wrong = n != 4; !wrong {
				o.Mss = int(one[2])*256 + int(one[3])
			}
		case 3:
			if wrong = n != 3; !wrong {
				o.HasScale, o.Scale = true, min(14, int(one[2]))
			}
		case 4:
			wrong, o.Permit = n != 2, true
		case 5:
			wrong, o.Blocks = n != 10 && n != 18 && n != 26 && n != 34, nil
			for j := 2; !wrong && j < n; j += 8 {
				o.Blocks = append(o.Blocks, api.Block{Left: four(one[j:]), Right: four(one[j+4:])})
			}
		case 8:
			if wrong = n != 10; !wrong {
				o.Ts, o.Val, o.Ecr = true, four(one[2:]), four(one[6:])
			}
		}
		if wrong {
			return api.Options{}, api.ErrForm
		}
		i += n
	}
	return o, api.OK
}

// piece is an option as bytes, as good as always one that may be.
func piece(r *rand.Rand) []byte {
	sizes := [][2]byte{{2, 4}, {3, 3}, {4, 2}, {5, 10}, {5, 18}, {5, 26}, {8, 10}, {6, 2}, {7, 5}, {9, 3}, {255, 2}}
	if r.Intn(6) == 0 {
		return []byte{1}
	}
	if r.Intn(40) == 0 {
		return []byte{0}
	}
	s := sizes[r.Intn(len(sizes))]
	b := make([]byte, s[1])
	r.Read(b)
	b[0], b[1] = s[0], s[1]
	if r.Intn(40) == 0 {
		b[r.Intn(2)] = byte(r.Intn(12))
	}
	return b
}

// row is some pieces, at most limit bytes.
func row(r *rand.Rand, limit int) [][]byte {
	var l [][]byte
	for p := piece(r); len(p) <= limit; p = piece(r) {
		l, limit = append(l, p), limit-len(p)
		if r.Intn(6) == 0 {
			break
		}
	}
	return l
}

func TestParseIsAsTold(t *testing.T) {
	r := rand.New(rand.NewSource(3))
	fine := 0
	for i := range 30000 {
		b := slices.Concat(row(r, 44)...)
		if i%3 == 0 {
			b = b[:r.Intn(len(b)+1)]
		}
		want, e := read(b)
		got, ge := option.Parse(b)
		if !option.Same(got, want) || ge != e {
			t.Fatalf("Parse(%v): %+v, %d, not %+v, %d", b, got, ge, want, e)
		}
		if e == api.OK {
			fine++
		}
	}
	if fine < 1000 {
		t.Error("too few that may be:", fine)
	}
}

func TestParseOfFewBytes(t *testing.T) {
	few := []byte{0, 1, 2, 3, 4, 5, 8, 9, 10, 255}
	var b [4]byte
	for i := range 10000 {
		b[0], b[1], b[2], b[3] = few[i%10], few[i/10%10], few[i/100%10], few[i/1000]
		for n := range 5 {
			want, e := read(b[:n])
			if got, ge := option.Parse(b[:n]); !option.Same(got, want) || ge != e {
				t.Fatalf("Parse(%v): %+v, %d, not %+v, %d", b[:n], got, ge, want, e)
			}
		}
	}
}

// P4.5
func TestWhatSaysNothingChangesNothing(t *testing.T) {
	r := rand.New(rand.NewSource(4))
	nothing := [][]byte{{1}, {1, 1, 1}, {6, 2}, {7, 2}, {9, 2}, {10, 3, 0}, {255, 2}, {6, 4, 2, 0}, {253, 3, 5}, {14, 5, 4, 2, 0}}
	for range 5000 {
		l := row(r, 34)
		want, e := option.Parse(slices.Concat(l...))
		if e != api.OK {
			continue
		}
		at := r.Intn(len(l) + 1)
		more := slices.Insert(slices.Clone(l), at, nothing[r.Intn(len(nothing))])
		b := slices.Concat(more...)
		if got, e := option.Parse(b); !option.Same(got, want) || e != api.OK {
			t.Fatalf("Parse(%v): %+v, %d, not %+v", b, got, e, want)
		}
	}
}

// P4.6
func TestWhatIsReadMayBe(t *testing.T) {
	r := rand.New(rand.NewSource(5))
	for range 10000 {
		b := slices.Concat(row(r, 40)...)
		o, e := option.Parse(b)
		if e != api.OK {
			continue
		}
		if e := option.Check(o); e != api.OK && !(e == api.ErrLong && option.Size(o) > 40) {
			t.Fatalf("Check(%+v), which was read from %v: %d", o, b, e)
		}
	}
}

func TestParseKeepsNothing(t *testing.T) {
	mem := []byte{5, 10, 0, 0, 0, 1, 0, 0, 0, 2, 4, 2, 9}
	was := bytes.Clone(mem)
	a, _ := option.Parse(mem[:10])
	b, _ := option.Parse(mem[:10])
	if a.Permit || !bytes.Equal(mem, was) {
		t.Error("more than the list is read, or it is changed:", a, mem)
	}
	mem[5] = 99
	a.Blocks[0].Right = 98
	if b.Blocks[0] != (api.Block{Left: 1, Right: 2}) || mem[9] != 2 {
		t.Error("memory is shared:", b, mem)
	}
	// What lies behind a list's length is not there.
	if got, e := option.Parse(mem[:9]); !option.Same(got, api.Options{}) || e != api.ErrShort {
		t.Error(got, e)
	}
}
