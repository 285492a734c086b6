package seq_test

import (
	"math"
	"math/big"
	"math/rand"
	"slices"
	"testing"

	"undertow/api"
	"undertow/seq"
)

// The calls with the types that the chapter lists.
var (
	_ func(int) uint32                  = seq.Wrap
	_ func(uint32, uint32) int          = seq.Dist
	_ func(uint32, uint32) bool         = seq.Less
	_ func(uint32, uint32, uint32) bool = seq.Between
	_ func(int, uint32) (int, bool)     = seq.Unwrap
	_ func(uint32, ...uint32) uint32    = seq.Latest
)

const (
	round = 1 << 32
	half  = 1 << 31
)

// numbers are those at which something turns over, and some between.
func numbers() []uint32 {
	l := []uint32{0, 1, 2, 3, 65535, 65536, half - 2, half - 1, half, half + 1, half + 2, 3 << 30, round - 3, round - 2, round - 1}
	r := rand.New(rand.NewSource(1))
	for range 20 {
		l = append(l, r.Uint32())
	}
	return l
}

// offsets are those at which something turns over, and some between, none beyond the limits.
func offsets() []int {
	l := []int{0, 1, half - 1, half, half + 1, round - 1, round, round + 1, 3 * half, 1 << 40, api.MaxOff - round, api.MaxOff - half - 1, api.MaxOff - half, api.MaxOff - half + 1, api.MaxOff - 1, api.MaxOff}
	r := rand.New(rand.NewSource(2))
	for range 30 {
		l = append(l, r.Intn(api.MaxOff), r.Intn(1<<33))
	}
	return l
}

// modulo is n modulo 2^32, from 0 on, reckoned without limits.
func modulo(n *big.Int) uint32 {
	return uint32(new(big.Int).Mod(n, big.NewInt(round)).Uint64())
}

func TestWrap(t *testing.T) {
	for _, c := range []struct {
		off  int
		want uint32
	}{
		{0, 0}, {1, 1}, {half, half}, {round - 1, round - 1}, {round, 0}, {round + 5, 5},
		{api.MaxOff, 0}, {api.MaxOff + 7, 7}, {math.MaxInt, round - 1},
		{-1, round - 1}, {-half, half}, {-round, 0}, {-round - 1, round - 1}, {math.MinInt, 0}, {math.MinInt + 1, 1},
	} {
		if got := seq.Wrap(c.off); got != c.want {
			t.Errorf("Wrap(%d): %d, not %d", c.off, got, c.want)
		}
	}
	for _, off := range offsets() {
		for _, off := range []int{off, -off} {
			if got, want := seq.Wrap(off), modulo(big.NewInt(int64(off))); got != want {
				t.Errorf("Wrap(%d): %d, not %d", off, got, want)
			}
		}
	}
}

func TestDistExamples(t *testing.T) {
	for _, c := range []struct {
		a, b uint32
		want int
	}{
		{0, 0, 0}, {round - 1, round - 1, 0}, {5, 9, 4}, {9, 5, -4},
		{round - 1, 1, 2}, {1, round - 1, -2},
		{0, half - 1, half - 1}, {0, half, -half}, {half, 0, -half}, {0, half + 1, -half + 1},
		{round - 1, half - 2, half - 1}, {round - 1, half - 1, -half}, {half + 1, 0, half - 1},
	} {
		if got := seq.Dist(c.a, c.b); got != c.want {
			t.Errorf("Dist(%d, %d): %d, not %d", c.a, c.b, got, c.want)
		}
	}
}

func TestDistAndLess(t *testing.T) {
	for _, a := range numbers() {
		for _, b := range numbers() {
			d := seq.Dist(a, b)
			if d < -half || d > half-1 {
				t.Errorf("Dist(%d, %d): %d is not the shorter way", a, b, d)
			}
			if at := modulo(big.NewInt(int64(a) + int64(d))); at != b {
				t.Errorf("Dist(%d, %d): %d leads to %d", a, b, d, at)
			}
			if seq.Less(a, b) != (d > 0) {
				t.Errorf("Less(%d, %d), where the way is %d: %v", a, b, d, seq.Less(a, b))
			}
		}
	}
}

func TestLess(t *testing.T) {
	for _, c := range []struct {
		a, b uint32
		want bool
	}{
		{0, 0, false}, {0, 1, true}, {1, 0, false}, {round - 1, 0, true}, {0, round - 1, false},
		{0, half - 1, true}, {0, half, false}, {half, 0, false}, {0, half + 1, false}, {half + 1, 0, true},
	} {
		if got := seq.Less(c.a, c.b); got != c.want {
			t.Errorf("Less(%d, %d): %v", c.a, c.b, got)
		}
	}
}

func TestBetween(t *testing.T) {
	for _, c := range []struct {
		lo, s, hi uint32
		want      bool
	}{
		{5, 5, 5, true}, {5, 6, 5, false}, {5, 4, 5, false},
		{5, 5, 9, true}, {5, 9, 9, true}, {5, 7, 9, true}, {5, 10, 9, false}, {5, 4, 9, false},
		{9, 5, 5, true}, {9, 9, 5, true}, {9, 0, 5, true}, {9, 6, 5, false}, {9, 8, 5, false},
		{round - 6, 3, 5, true}, {round - 6, 6, 5, false}, {round - 6, round - 7, 5, false},
		{0, half, round - 1, true}, {1, 0, 0, true}, {1, half + 1, 0, true}, {0, half + 1, half, false},
	} {
		if got := seq.Between(c.lo, c.s, c.hi); got != c.want {
			t.Errorf("Between(%d, %d, %d): %v", c.lo, c.s, c.hi, got)
		}
	}
}

func TestBetweenIsAsReckoned(t *testing.T) {
	up := func(from, to uint32) uint32 { return modulo(big.NewInt(int64(to) - int64(from))) }
	for _, lo := range numbers() {
		for _, s := range numbers() {
			for _, hi := range numbers() {
				if got, want := seq.Between(lo, s, hi), up(lo, s) <= up(lo, hi); got != want {
					t.Fatalf("Between(%d, %d, %d): %v", lo, s, hi, got)
				}
			}
		}
	}
}

func TestUnwrap(t *testing.T) {
	for _, c := range []struct {
		near int
		s    uint32
		want int
		ok   bool
	}{
		{0, 0, 0, true}, {7, 9, 9, true}, {9, 7, 7, true}, {0, half - 1, half - 1, true},
		{round + 4, 2, round + 2, true}, {round - 1, 1, round + 1, true}, {round, round - 1, round - 1, true},
		// At 2^31 the way down is taken, so there is an offset only if it is not below 0.
		{half, 0, 0, true}, {half - 1, round - 1, 0, false}, {0, half, 0, false},
		{half + 1, 1, 1, true}, {half - 1, half, half, true},
		// Beyond the ends.
		{0, round - 1, 0, false}, {1, round - 1, 0, false}, {1, 0, 0, true}, {5, round - 1, 0, false},
		{api.MaxOff, 0, api.MaxOff, true}, {api.MaxOff, 1, 0, false}, {api.MaxOff, half - 1, 0, false},
		{api.MaxOff, round - 1, api.MaxOff - 1, true}, {api.MaxOff, half, api.MaxOff - half, true},
		{api.MaxOff - 1, 0, api.MaxOff, true}, {api.MaxOff - 1, 1, 0, false},
		// Of a near that may not be nothing is told, wherever the number would lead.
		{-1, 0, 0, false}, {-1, round - 1, 0, false}, {-1, 5, 0, false}, {api.MaxOff + 1, 0, 0, false}, {api.MaxOff + 1, 1, 0, false},
		{math.MinInt, 0, 0, false}, {math.MinInt, half, 0, false}, {math.MaxInt, round - 1, 0, false}, {math.MaxInt, 5, 0, false},
	} {
		if got, ok := seq.Unwrap(c.near, c.s); got != c.want || ok != c.ok {
			t.Errorf("Unwrap(%d, %d): %d, %v, not %d, %v", c.near, c.s, got, ok, c.want, c.ok)
		}
	}
}

func TestUnwrapIsNearAndTheWay(t *testing.T) {
	for _, near := range offsets() {
		for _, s := range numbers() {
			want := new(big.Int).Add(big.NewInt(int64(near)), big.NewInt(int64(seq.Dist(seq.Wrap(near), s))))
			may := want.Sign() >= 0 && want.Cmp(big.NewInt(api.MaxOff)) <= 0
			if !may {
				want.SetInt64(0)
			}
			if got, ok := seq.Unwrap(near, s); int64(got) != want.Int64() || ok != may {
				t.Errorf("Unwrap(%d, %d): %d, %v, not %d, %v", near, s, got, ok, want, may)
			}
		}
	}
}

func TestLatest(t *testing.T) {
	for _, c := range []struct {
		from uint32
		l    []uint32
		want uint32
	}{
		{10, nil, 10}, {10, []uint32{}, 10}, {10, []uint32{10}, 10}, {10, []uint32{9}, 10}, {10, []uint32{11}, 11},
		{10, []uint32{9, 12, 11}, 12}, {10, []uint32{12, 9, 11}, 12}, {10, []uint32{11, 9, 12}, 12}, {10, []uint32{12, 12}, 12},
		{round - 2, []uint32{round - 1, 3, round - 3}, 3}, {round - 2, []uint32{3, round - 1}, 3},
		{0, []uint32{half - 1, half, half + 1}, half - 1}, {0, []uint32{half}, 0}, {0, []uint32{half, round - 1}, 0},
		// By the way from the first one, not by the way from the one that is ahead so far.
		{0, []uint32{3 << 29, 5 << 29}, 3 << 29}, {0, []uint32{half - 1, half + 5}, half - 1},
	} {
		if got := seq.Latest(c.from, c.l...); got != c.want {
			t.Errorf("Latest(%d, %v): %d, not %d", c.from, c.l, got, c.want)
		}
	}
}

func TestLatestIsTheGreatestWay(t *testing.T) {
	r := rand.New(rand.NewSource(3))
	all := numbers()
	for range 2000 {
		from := all[r.Intn(len(all))]
		l := make([]uint32, r.Intn(6))
		for i := range l {
			l[i] = all[r.Intn(len(all))]
		}
		was := slices.Clone(l)
		got := seq.Latest(from, l...)
		if !slices.Equal(l, was) {
			t.Fatalf("Latest(%d, %v) left %v", from, was, l)
		}
		if got != from && !slices.Contains(l, got) {
			t.Fatalf("Latest(%d, %v): %d is none of them", from, l, got)
		}
		for _, s := range append(l, from) {
			if seq.Dist(from, s) > seq.Dist(from, got) {
				t.Fatalf("Latest(%d, %v): %d, but %d is further", from, was, got, s)
			}
		}
	}
}

func TestLatestLooksNoFurtherThanTheList(t *testing.T) {
	l := []uint32{11, 15, 12}
	if got := seq.Latest(10, l[:1]...); got != 11 {
		t.Error(got)
	}
	if !slices.Equal(l, []uint32{11, 15, 12}) {
		t.Error(l)
	}
}

// P1.5
func TestAnOffsetIsFoundAgain(t *testing.T) {
	ways := []int{0, 1, -1, 2, 1000, -1000, half - 1, -half + 1, half - 2, -half + 2, 1 << 30, -1 << 30}
	for _, off := range offsets() {
		for _, way := range ways {
			near := off + way
			if near < 0 || near > api.MaxOff {
				continue
			}
			if got, ok := seq.Unwrap(near, seq.Wrap(off)); got != off || !ok {
				t.Errorf("%d is not found again next to %d: %d, %v", off, near, got, ok)
			}
		}
	}
	// The bound is sharp: from 2^31 below, another one is found.
	if got, ok := seq.Unwrap(half, seq.Wrap(round)); got != 0 || !ok {
		t.Error(got, ok)
	}
}

// P1.6
func TestTheWayBackIsTheWayTurned(t *testing.T) {
	for _, a := range numbers() {
		for _, b := range numbers() {
			there, back := seq.Dist(a, b), seq.Dist(b, a)
			if there == -half && back != -half || there != -half && back != -there {
				t.Errorf("from %d to %d: %d, back %d", a, b, there, back)
			}
			for _, by := range numbers() {
				if got := seq.Dist(a+by, b+by); got != there {
					t.Errorf("from %d to %d: %d, both moved by %d: %d", a, b, there, by, got)
				}
			}
		}
	}
}
