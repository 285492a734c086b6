package dup_test

import (
	"math"
	"math/big"
	"math/rand"
	"reflect"
	"slices"
	"testing"

	"undertow/api"
	"undertow/dup"
)

// The calls and the type as the chapter lists them.
var (
	_ func(una, nxt int, num uint32, l []api.Block) (dup.Told, api.Errno) = dup.Look
	_ func(uint32, api.Span, ...api.Span) []api.Block                     = dup.Blocks
	_                                                                     = dup.Told{Ack: 0, IsDup: false, Dup: api.Span{}, Sacks: []api.Span(nil), Bad: 0}
)

const (
	round = 1 << 32
	half  = 1 << 31
)

var zero api.Span

// to is a span.
func to(from, to int) api.Span {
	return api.Span{From: from, To: to}
}

// bl is a block, its ends modulo 2^32.
func bl(left, right int) api.Block {
	return api.Block{Left: uint32(left), Right: uint32(right)}
}

// bls is blocks, of two ends each.
func bls(ends ...int) []api.Block {
	var l []api.Block
	for i := 0; i < len(ends); i += 2 {
		l = append(l, bl(ends[i], ends[i+1]))
	}
	return l
}

// same tells whether both tell the same.
func same(a, b dup.Told) bool {
	return a.Ack == b.Ack && a.IsDup == b.IsDup && a.Dup == b.Dup && a.Bad == b.Bad && slices.Equal(a.Sacks, b.Sacks)
}

// mustLook fails if Look tells something else, or changes its list.
func mustLook(t *testing.T, una, nxt, num int, l []api.Block, want dup.Told, e api.Errno) {
	t.Helper()
	was := slices.Clone(l)
	if got, err := dup.Look(una, nxt, uint32(num), l); !same(got, want) || err != e {
		t.Errorf("Look(%d, %d, %d, %v): %v, %d, not %v, %d", una, nxt, uint32(num), l, got, err, want, e)
	}
	if !slices.Equal(l, was) {
		t.Errorf("Look left %v of %v", l, was)
	}
}

func TestExamples(t *testing.T) {
	mustLook(t, 100, 200, 120, bls(110, 120, 150, 160), dup.Told{Ack: 120, IsDup: true, Dup: to(110, 120), Sacks: []api.Span{to(150, 160)}}, api.OK)
	mustLook(t, 100, 200, 120, bls(150, 155, 150, 160), dup.Told{Ack: 120, IsDup: true, Dup: to(150, 155), Sacks: []api.Span{to(150, 160)}}, api.OK)
}

// P10.1
func TestTheNumber(t *testing.T) {
	for _, c := range []struct {
		una, nxt, num int
		ack           int
		e             api.Errno
	}{
		{0, 0, 0, 0, api.OK}, {100, 200, 100, 100, api.OK}, {100, 200, 120, 120, api.OK}, {100, 200, 200, 200, api.OK}, {100, 200, 99, 99, api.OK}, {100, 200, 0, 0, api.OK},
		// The ends.
		{-1, 0, 0, 0, api.ErrRange}, {-1, -1, 0, 0, api.ErrRange}, {math.MinInt, 0, 0, 0, api.ErrRange}, {math.MinInt, math.MaxInt, 0, 0, api.ErrRange}, {math.MinInt, math.MinInt, 0, 0, api.ErrRange},
		{100, 99, 100, 0, api.ErrRange}, {100, 0, 100, 0, api.ErrRange}, {100, -1, 100, 0, api.ErrRange}, {0, math.MinInt, 0, 0, api.ErrRange}, {api.MaxOff, math.MinInt, 0, 0, api.ErrRange},
		{0, api.MaxBuffer, 0, 0, api.OK}, {0, api.MaxBuffer + 1, 0, 0, api.ErrRange}, {100, 100 + api.MaxBuffer, 150, 150, api.OK}, {100, 101 + api.MaxBuffer, 150, 0, api.ErrRange},
		{0, api.MaxOff, 0, 0, api.ErrRange}, {0, math.MaxInt, 0, 0, api.ErrRange}, {api.MaxOff, api.MaxOff, 0, api.MaxOff, api.OK}, {api.MaxOff - 1, api.MaxOff, -1, api.MaxOff - 1, api.OK},
		{api.MaxOff, api.MaxOff + 1, 0, 0, api.ErrRange}, {api.MaxOff - 1, api.MaxOff + 1, -1, 0, api.ErrRange}, {api.MaxOff + 1, api.MaxOff + 1, 1, 0, api.ErrRange}, {math.MaxInt, math.MaxInt, -1, 0, api.ErrRange},
		// Ahead of what was sent.
		{100, 200, 201, 0, api.ErrAhead}, {100, 200, 100 + half - 1, 0, api.ErrAhead}, {0, 0, 1, 0, api.ErrAhead}, {round + 5, round + 9, 10, 0, api.ErrAhead}, {round + 5, round + 9, 9, round + 9, api.OK},
		// Too old, or none at all.
		{100, 200, -1, 0, api.ErrOld}, {100, 200, 100 + half, 0, api.ErrOld}, {0, 0, -1, 0, api.ErrOld}, {0, 0, half, 0, api.ErrOld},
		{api.MaxBuffer + 7, api.MaxBuffer + 9, 7, 7, api.OK}, {api.MaxBuffer + 7, api.MaxBuffer + 9, 6, 0, api.ErrOld}, {api.MaxBuffer + 7, api.MaxBuffer + 9, 0, 0, api.ErrOld},
		{api.MaxBuffer, api.MaxBuffer, 0, 0, api.OK}, {api.MaxBuffer + 1, api.MaxBuffer + 1, 0, 0, api.ErrOld},
		{round, round, -1, round - 1, api.OK}, {round, round, -api.MaxBuffer, round - api.MaxBuffer, api.OK}, {round, round, -api.MaxBuffer - 1, 0, api.ErrOld}, {half, half, 0, 0, api.ErrOld},
		// No offset is above MaxOff, so there is none.
		{api.MaxOff, api.MaxOff, 1, 0, api.ErrOld}, {api.MaxOff - 5, api.MaxOff, 1, 0, api.ErrOld}, {api.MaxOff - 5, api.MaxOff, 0, api.MaxOff, api.OK}, {api.MaxOff, api.MaxOff, half - 1, 0, api.ErrOld},
		{api.MaxOff, api.MaxOff, -api.MaxBuffer, api.MaxOff - api.MaxBuffer, api.OK}, {api.MaxOff, api.MaxOff, -api.MaxBuffer - 1, 0, api.ErrOld},
	} {
		mustLook(t, c.una, c.nxt, c.num, nil, dup.Told{Ack: c.ack}, c.e)
		// With an error nothing else is told, whatever the blocks say.
		if c.e != api.OK {
			mustLook(t, c.una, c.nxt, c.num, bls(c.num-10, c.num-5, c.num+5, c.num+10, 7, 7), dup.Told{}, c.e)
		}
	}
}

// P10.2
func TestTheFirstBlock(t *testing.T) {
	for _, c := range []struct {
		l    []api.Block
		want dup.Told
	}{
		{nil, dup.Told{}},
		{[]api.Block{}, dup.Told{}},
		// By its To, up to the number.
		{bls(110, 119), dup.Told{IsDup: true, Dup: to(110, 119)}},
		{bls(110, 120), dup.Told{IsDup: true, Dup: to(110, 120)}},
		{bls(110, 121), dup.Told{Bad: 1}},
		{bls(0, 1), dup.Told{IsDup: true, Dup: to(0, 1)}},
		{bls(119, 120), dup.Told{IsDup: true, Dup: to(119, 120)}},
		// By the second block, which holds it.
		{bls(150, 160, 150, 160), dup.Told{IsDup: true, Dup: to(150, 160), Sacks: []api.Span{to(150, 160)}}},
		{bls(155, 160, 150, 160), dup.Told{IsDup: true, Dup: to(155, 160), Sacks: []api.Span{to(150, 160)}}},
		{bls(149, 155, 150, 160), dup.Told{Sacks: []api.Span{to(149, 155), to(150, 160)}}},
		{bls(150, 161, 150, 160), dup.Told{Sacks: []api.Span{to(150, 161), to(150, 160)}}},
		{bls(140, 150, 150, 160), dup.Told{Sacks: []api.Span{to(140, 150), to(150, 160)}}},
		{bls(190, 200, 190, 200), dup.Told{IsDup: true, Dup: to(190, 200), Sacks: []api.Span{to(190, 200)}}},
		{bls(190, 201, 190, 201), dup.Told{Bad: 2}},
		// The second block says so, though it says nothing else: it goes beyond what was sent, or begins too early.
		{bls(190, 200, 190, 201), dup.Told{IsDup: true, Dup: to(190, 200), Bad: 1}},
		{bls(120, 125, 120, 130), dup.Told{IsDup: true, Dup: to(120, 125), Bad: 1}},
		{bls(115, 125, 110, 130), dup.Told{IsDup: true, Dup: to(115, 125), Bad: 1}},
		// The second one alone, and if it is well formed.
		{bls(150, 155, 160, 170, 150, 155), dup.Told{Sacks: []api.Span{to(150, 155), to(160, 170), to(150, 155)}}},
		{bls(150, 155, 155, 150), dup.Told{Sacks: []api.Span{to(150, 155)}, Bad: 1}},
		{bls(150, 155, 150, 150), dup.Told{Sacks: []api.Span{to(150, 155)}, Bad: 1}},
		{bls(150, 155, 100, 100+api.MaxBuffer), dup.Told{IsDup: true, Dup: to(150, 155), Bad: 1}},
		{bls(150, 155, 100, 101+api.MaxBuffer), dup.Told{Sacks: []api.Span{to(150, 155)}, Bad: 1}},
		{bls(150, 155, -10, 160), dup.Told{Sacks: []api.Span{to(150, 155)}, Bad: 1}},
		// One that is not well formed says nothing.
		{bls(120, 110), dup.Told{Bad: 1}},
		{bls(110, 110), dup.Told{Bad: 1}},
		{bls(-5, 5), dup.Told{Bad: 1}},
		{bls(-5, -2), dup.Told{Bad: 1}},
		{bls(120, 110, 150, 160), dup.Told{Sacks: []api.Span{to(150, 160)}, Bad: 1}},
		// Of those behind it none is a Dup.
		{bls(150, 160, 110, 120), dup.Told{Sacks: []api.Span{to(150, 160)}, Bad: 1}},
		{bls(110, 120, 110, 120), dup.Told{IsDup: true, Dup: to(110, 120), Bad: 1}},
		{bls(110, 120, 150, 155, 150, 160), dup.Told{IsDup: true, Dup: to(110, 120), Sacks: []api.Span{to(150, 155), to(150, 160)}}},
	} {
		c.want.Ack = 120
		mustLook(t, 100, 200, 120, c.l, c.want, api.OK)
	}
}

// P10.3
func TestTheOtherBlocks(t *testing.T) {
	for _, c := range []struct {
		l    []api.Block
		want dup.Told
	}{
		{bls(121, 122), dup.Told{Sacks: []api.Span{to(121, 122)}}},
		{bls(120, 122), dup.Told{Bad: 1}},
		{bls(121, 200), dup.Told{Sacks: []api.Span{to(121, 200)}}},
		{bls(121, 201), dup.Told{Bad: 1}},
		{bls(199, 200), dup.Told{Sacks: []api.Span{to(199, 200)}}},
		{bls(200, 201), dup.Told{Bad: 1}},
		{bls(300, 310), dup.Told{Bad: 1}},
		{bls(150, 150), dup.Told{Bad: 1}},
		{bls(160, 150), dup.Told{Bad: 1}},
		// In their order, as often as they come, and however many there are.
		{bls(170, 180, 150, 160, 130, 140), dup.Told{Sacks: []api.Span{to(170, 180), to(150, 160), to(130, 140)}}},
		{bls(150, 160, 130, 140, 130, 140), dup.Told{Sacks: []api.Span{to(150, 160), to(130, 140), to(130, 140)}}},
		{bls(150, 160, 140, 155), dup.Told{Sacks: []api.Span{to(150, 160), to(140, 155)}}},
		{bls(121, 122, 123, 124, 125, 126, 127, 128, 129, 130, 131, 132), dup.Told{Sacks: []api.Span{to(121, 122), to(123, 124), to(125, 126), to(127, 128), to(129, 130), to(131, 132)}}},
		{bls(110, 121, 150, 160, 199, 201, 7, 7, 170, 180, 120, 130), dup.Told{Sacks: []api.Span{to(150, 160), to(170, 180)}, Bad: 4}},
	} {
		c.want.Ack = 120
		mustLook(t, 100, 200, 120, c.l, c.want, api.OK)
	}
}

// P10.1 to P10.3: where the numbers go round, and at the ends of the offsets.
func TestFarFromTheFirstOffset(t *testing.T) {
	for _, base := range []int{round - 150, round, 5*round - 125, 1<<61 - 110, api.MaxOff - 200} {
		l := bls(base+110, base+120, base+150, base+160, base+190, base+201, base+199, base+200)
		mustLook(t, base+100, base+200, base+120, l, dup.Told{Ack: base + 120, IsDup: true, Dup: to(base+110, base+120), Sacks: []api.Span{to(base+150, base+160), to(base+199, base+200)}, Bad: 1}, api.OK)
	}
	// The second block is well formed, but for its To above MaxOff.
	const m = api.MaxOff
	mustLook(t, m-10, m, m-8, bls(m-4, m, m-4, m+1), dup.Told{Ack: m - 8, Sacks: []api.Span{to(m-4, m)}, Bad: 1}, api.OK)
	mustLook(t, m-10, m, m-8, bls(m-4, m, m-5, m), dup.Told{Ack: m - 8, IsDup: true, Dup: to(m-4, m), Sacks: []api.Span{to(m-5, m)}}, api.OK)
	mustLook(t, m-10, m, m-8, bls(m+1, m+2, m, m+1), dup.Told{Ack: m - 8, Bad: 2}, api.OK)
	// Blocks are next to the number, 2^31 below it at most, and not to Una.
	const una, ack = 3*half - 10, 3*half + 10
	mustLook(t, una, ack+10, ack, bls(2*half+10, 2*half+20), dup.Told{Ack: ack, IsDup: true, Dup: to(2*half+10, 2*half+20)}, api.OK)
	mustLook(t, una, ack+10, ack, bls(2*half+9, 2*half+19), dup.Told{Ack: ack, Bad: 1}, api.OK)
	mustLook(t, una, ack+10, ack, bls(2*half-5, 2*half+5), dup.Told{Ack: ack, Bad: 1}, api.OK)
	mustLook(t, 10, 40, 30, bls(half+29, half+39), dup.Told{Ack: 30, Bad: 1}, api.OK)
}

// The number may be below Una: blocks are next to it all the same.
func TestANumberBelowUna(t *testing.T) {
	mustLook(t, 100, 200, 90, bls(95, 99, 150, 160), dup.Told{Ack: 90, Sacks: []api.Span{to(95, 99), to(150, 160)}}, api.OK)
	mustLook(t, 100, 200, 90, bls(80, 90, 150, 160), dup.Told{Ack: 90, IsDup: true, Dup: to(80, 90), Sacks: []api.Span{to(150, 160)}}, api.OK)
	mustLook(t, 100, 200, 90, bls(85, 95, 150, 160), dup.Told{Ack: 90, Sacks: []api.Span{to(150, 160)}, Bad: 1}, api.OK)
	mustLook(t, api.MaxBuffer, 2*api.MaxBuffer, 0, bls(1, 1+api.MaxBuffer), dup.Told{Sacks: []api.Span{to(1, 1+api.MaxBuffer)}}, api.OK)
	mustLook(t, api.MaxBuffer, 2*api.MaxBuffer, 0, bls(1, 2+api.MaxBuffer), dup.Told{Bad: 1}, api.OK)
}

// offset is the offset that a number stands for, next to another one, reckoned without limits: of those from 2^31 below on the first one.
func offset(near *big.Int, num uint32) *big.Int {
	low := new(big.Int).Sub(near, big.NewInt(half))
	way := new(big.Int).Sub(new(big.Int).SetUint64(uint64(num)), low)
	way.Mod(way, big.NewInt(round))
	return way.Add(way, low)
}

// may tells whether it is from 0 to MaxOff.
func may(n *big.Int) bool {
	return n.Sign() >= 0 && n.Cmp(big.NewInt(api.MaxOff)) <= 0
}

// read is a block's span, and whether it is well formed, by the chapter's words.
func read(near int, b api.Block) (api.Span, bool) {
	size := new(big.Int).Mod(big.NewInt(int64(b.Right)-int64(b.Left)), big.NewInt(round))
	from := offset(big.NewInt(int64(near)), b.Left)
	end := new(big.Int).Add(from, size)
	if size.Sign() == 0 || size.Cmp(big.NewInt(api.MaxBuffer)) > 0 || !may(from) || !may(end) {
		return zero, false
	}
	return to(int(from.Int64()), int(end.Int64())), true
}

// look is Look by the chapter's words, for ends that may be.
func look(una, nxt int, num uint32, l []api.Block) (dup.Told, api.Errno) {
	off := offset(big.NewInt(int64(una)), num)
	if !may(off) || off.Cmp(big.NewInt(int64(una)-api.MaxBuffer)) < 0 {
		return dup.Told{}, api.ErrOld
	}
	if off.Cmp(big.NewInt(int64(nxt))) > 0 {
		return dup.Told{}, api.ErrAhead
	}
	told := dup.Told{Ack: int(off.Int64())}
	for i, b := range l {
		s, ok := read(told.Ack, b)
		if i == 0 && ok {
			again := s.To <= told.Ack
			if s.To <= nxt && len(l) > 1 {
				t, ok := read(told.Ack, l[1])
				again = again || ok && t.From <= s.From && s.To <= t.To
			}
			if again {
				told.IsDup, told.Dup = true, s
				continue
			}
		}
		if ok && s.From > told.Ack && s.To <= nxt {
			told.Sacks = append(told.Sacks, s)
		} else {
			told.Bad++
		}
	}
	return told, api.OK
}

func TestLookIsAsReckoned(t *testing.T) {
	rnd := rand.New(rand.NewSource(1))
	near := []int{0, 1, 7, api.MaxBuffer - 1, api.MaxBuffer, api.MaxBuffer + 1, half - 1, half, half + 1, round - 3, round, round + 3, 1 << 40, api.MaxOff - half, api.MaxOff - api.MaxBuffer, api.MaxOff - 7, api.MaxOff}
	ways := []int{0, 1, 2, 3, 5, 8, api.MaxBuffer - 1, api.MaxBuffer, api.MaxBuffer + 1, half - 1, half, half + 1}
	way := func() int {
		if rnd.Intn(3) > 0 {
			return rnd.Intn(41) - 20
		}
		return ways[rnd.Intn(len(ways))] * (rnd.Intn(3) - 1)
	}
	seen := map[api.Errno]int{}
	dups, sacks, bad := 0, 0, 0
	for range 200_000 {
		una := near[rnd.Intn(len(near))]
		nxt := min(una+rnd.Intn(30), api.MaxOff)
		if rnd.Intn(10) == 0 {
			nxt = min(una+api.MaxBuffer, api.MaxOff)
		}
		num := una + way()
		var l []api.Block
		for range rnd.Intn(5) {
			left := num + way()
			l = append(l, bl(left, left+way()))
		}
		want, e := look(una, nxt, uint32(num), l)
		got, err := dup.Look(una, nxt, uint32(num), l)
		if !same(got, want) || err != e {
			t.Fatalf("Look(%d, %d, %d, %v): %v, %d, not %v, %d", una, nxt, uint32(num), l, got, err, want, e)
		}
		seen[e]++
		sacks, bad = sacks+len(got.Sacks), bad+got.Bad
		if got.IsDup {
			dups++
		}
		mustLieWithin(t, got, nxt)
	}
	if seen[api.OK] < 1000 || seen[api.ErrOld] < 1000 || seen[api.ErrAhead] < 1000 || dups < 1000 || sacks < 1000 || bad < 1000 {
		t.Error("too few of a kind", seen, dups, sacks, bad)
	}
}

// mustLieWithin fails if a span lies where none may be (P10.6).
func mustLieWithin(t *testing.T, told dup.Told, nxt int) {
	t.Helper()
	for _, s := range told.Sacks {
		if s.From <= told.Ack || s.To > nxt || s.From >= s.To {
			t.Fatalf("%v, up to %d", told, nxt)
		}
	}
	if told.IsDup && (told.Dup.To > nxt || told.Dup.From >= told.Dup.To) || !told.IsDup && told.Dup != zero {
		t.Fatalf("%v, up to %d", told, nxt)
	}
}

// What lies behind the list's length is not read.
func TestLookLooksNoFurtherThanTheList(t *testing.T) {
	l := bls(150, 155, 150, 160, 170, 180)
	mustLook(t, 100, 200, 120, l[:1], dup.Told{Ack: 120, Sacks: []api.Span{to(150, 155)}}, api.OK)
	mustLook(t, 100, 200, 120, l[:0], dup.Told{Ack: 120}, api.OK)
	if !slices.Equal(l, bls(150, 155, 150, 160, 170, 180)) {
		t.Error(l)
	}
}

// P10.4
func TestBlocks(t *testing.T) {
	for _, c := range []struct {
		first int
		dup   api.Span
		sacks []api.Span
		want  []api.Block
	}{
		{0, zero, nil, nil},
		{0, to(5, 5), []api.Span{}, nil},
		{0, to(2, 5), nil, bls(2, 5)},
		{0, zero, []api.Span{to(2, 5)}, bls(2, 5)},
		{0, to(2, 5), []api.Span{to(7, 9)}, bls(2, 5, 7, 9)},
		{100, to(2, 5), []api.Span{to(7, 9)}, bls(102, 105, 107, 109)},
		// In order, as often as they come.
		{0, to(8, 9), []api.Span{to(20, 30), to(7, 10), to(20, 30)}, bls(8, 9, 20, 30, 7, 10, 20, 30)},
		{0, zero, []api.Span{to(20, 30), to(7, 10)}, bls(20, 30, 7, 10)},
		// Empty ones, and those that may not be, are left out, and count for nothing.
		{0, to(2, 5), []api.Span{zero, to(7, 9), to(8, 8), to(10, 11)}, bls(2, 5, 7, 9, 10, 11)},
		{0, to(5, 2), []api.Span{to(-1, 5), to(7, 9), to(9, 8)}, bls(7, 9)},
		{0, to(-3, -1), []api.Span{to(0, api.MaxOff+1), to(math.MinInt, math.MaxInt), to(math.MaxInt, math.MinInt)}, nil},
		{0, zero, []api.Span{zero, to(1, 2), zero, to(3, 4), to(9, 5), to(5, 6), zero, to(7, 8), zero}, bls(1, 2, 3, 4, 5, 6, 7, 8)},
		// At most 4 in all.
		{0, zero, []api.Span{to(1, 2), to(3, 4), to(5, 6), to(7, 8), to(9, 10)}, bls(1, 2, 3, 4, 5, 6, 7, 8)},
		{0, to(11, 12), []api.Span{to(1, 2), to(3, 4), to(5, 6), to(7, 8)}, bls(11, 12, 1, 2, 3, 4, 5, 6)},
		{0, to(11, 12), []api.Span{to(1, 2), to(3, 4), to(5, 6)}, bls(11, 12, 1, 2, 3, 4, 5, 6)},
		// The numbers go round.
		{round - 3, to(2, 5), []api.Span{to(0, 3), to(3, 4)}, bls(round-1, 2, round-3, 0, 0, 1)},
		{5, to(round-7, round-5), []api.Span{to(round, round+1), to(api.MaxOff-1, api.MaxOff)}, bls(round-2, 0, 5, 6, 4, 5)},
		{round - 1, to(api.MaxOff-1, api.MaxOff), []api.Span{to(0, api.MaxOff)}, bls(round-2, round-1, round-1, round-1)},
		// However long they are.
		{0, to(0, api.MaxBuffer+1), []api.Span{to(1, half), to(0, round)}, bls(0, api.MaxBuffer+1, 1, half, 0, 0)},
	} {
		was := slices.Clone(c.sacks)
		if got := dup.Blocks(uint32(c.first), c.dup, c.sacks...); !slices.Equal(got, c.want) {
			t.Errorf("Blocks(%d, %v, %v): %v, not %v", c.first, c.dup, c.sacks, got, c.want)
		}
		if !slices.Equal(c.sacks, was) {
			t.Errorf("Blocks left %v of %v", c.sacks, was)
		}
	}
	if got := dup.Blocks(7, to(2, 5)); !slices.Equal(got, bls(9, 12)) {
		t.Error(got)
	}
}

// ends are rising places above a number, no two alike.
func ends(rnd *rand.Rand, above, nxt, n int) []int {
	var l []int
	for len(l) < n {
		if at := above + 1 + rnd.Intn(nxt-above); !slices.Contains(l, at) {
			l = append(l, at)
		}
	}
	slices.Sort(l)
	return l
}

// P10.5: what is told in blocks is read again, whichever number the first offset has.
func TestThereAndBack(t *testing.T) {
	rnd := rand.New(rand.NewSource(2))
	for range 20_000 {
		una := rnd.Intn(1 << uint(1+rnd.Intn(61)))
		size := []int{40, 3000, api.MaxBuffer}[rnd.Intn(3)]
		nxt, ack := una+size, una+rnd.Intn(size/2)
		e := ends(rnd, ack, nxt, 6)
		sacks := []api.Span{to(e[0], e[1]), to(e[2], e[3]), to(e[4], e[5])}
		rnd.Shuffle(len(sacks), func(i, j int) { sacks[i], sacks[j] = sacks[j], sacks[i] })
		want := dup.Told{Ack: ack, Sacks: sacks}
		switch rnd.Intn(3) {
		case 0:
			from := max(0, ack-1-rnd.Intn(size))
			want.Dup = to(from, from+rnd.Intn(ack-from+1))
		case 1:
			s := sacks[0]
			from := s.From + rnd.Intn(s.To-s.From)
			want.Dup = to(from, from+1+rnd.Intn(s.To-from))
		}
		if want.IsDup = want.Dup.From < want.Dup.To; !want.IsDup {
			want.Dup = zero
		}
		// Numbers and blocks less the first number stand for the offsets alone.
		first := rnd.Uint32()
		l := dup.Blocks(first, want.Dup, sacks...)
		for i := range l {
			l[i].Left -= first
			l[i].Right -= first
		}
		mustLook(t, una, nxt, ack, l, want, api.OK)
	}
}

// Each answer is memory of its own.
func TestAnswersAreNewMemory(t *testing.T) {
	l := bls(150, 160, 130, 140)
	a, _ := dup.Look(100, 200, 120, l)
	b, _ := dup.Look(100, 200, 120, l)
	a.Sacks[0] = to(1, 2)
	l[1] = bl(121, 122)
	if want := []api.Span{to(150, 160), to(130, 140)}; !slices.Equal(b.Sacks, want) {
		t.Error(b.Sacks)
	}
	x, y := dup.Blocks(0, to(2, 5), to(7, 9)), dup.Blocks(0, to(2, 5), to(7, 9))
	x[0] = bl(1, 1)
	if !slices.Equal(y, bls(2, 5, 7, 9)) {
		t.Error(y)
	}
}

// Beside an error all is zero, field by field.
func TestNothingBesideAnError(t *testing.T) {
	for _, c := range []struct{ una, nxt, num int }{{5, 4, 5}, {100, 200, 201}, {100000, 100000, 5}} {
		if got, e := dup.Look(c.una, c.nxt, uint32(c.num), bls(1, 2, 150, 160)); e == api.OK || !reflect.ValueOf(got).IsZero() {
			t.Error(c, got, e)
		}
	}
}
