package sum_test

import (
	"bytes"
	"math/rand"
	"testing"

	"undertow/sum"
)

// The calls with the types that the chapter lists.
var (
	_ func(...[]byte) uint16              = sum.Of
	_ func(uint16, uint16) uint16         = sum.Add
	_ func(...[]byte) uint16              = sum.Check
	_ func([]byte) bool                   = sum.Fine
	_ func(uint16, uint16, uint16) uint16 = sum.Turn
)

// carried is a number with what goes over 16 bits added at the lowest place, until nothing goes over.
func carried(n uint64) uint16 {
	for n > 65535 {
		n = n>>16 + n&65535
	}
	return uint16(n)
}

// reckoned is the sum of bytes, as the chapter's words have it.
func reckoned(b []byte) uint16 {
	var all uint64
	for i, n := range b {
		if i%2 == 0 {
			all += uint64(n) * 256
		} else {
			all += uint64(n)
		}
	}
	return carried(all)
}

// words are those at which something goes over, and some between.
func words() []uint16 {
	l := []uint16{0, 1, 2, 127, 128, 254, 255, 256, 257, 32766, 32767, 32768, 32769, 65279, 65280, 65281, 65533, 65534, 65535}
	r := rand.New(rand.NewSource(1))
	for range 40 {
		l = append(l, uint16(r.Intn(65536)))
	}
	return l
}

// some is bytes, now and then with many of 0 and 255 among them.
func some(r *rand.Rand, n int) []byte {
	b := make([]byte, n)
	r.Read(b)
	if r.Intn(2) == 0 {
		for i := range b {
			if r.Intn(3) > 0 {
				b[i] = byte(r.Intn(2) * 255)
			}
		}
	}
	return b
}

// pieces cuts bytes into lists, some of them empty or odd.
func pieces(r *rand.Rand, b []byte) [][]byte {
	var l [][]byte
	for len(b) > 0 {
		n := r.Intn(min(len(b), 7) + 1)
		l = append(l, b[:n])
		b = b[n:]
	}
	return append(l, nil)
}

func TestOfExamples(t *testing.T) {
	for _, c := range []struct {
		l    [][]byte
		want uint16
	}{
		{[][]byte{{0, 1, 242, 3, 244, 245, 246, 247}}, 56818},
		{[][]byte{{1}}, 256},
		{nil, 0},
		{[][]byte{nil}, 0},
		{[][]byte{{}, nil, {}}, 0},
		{[][]byte{{0}}, 0},
		{[][]byte{{0, 0, 0, 0}}, 0},
		{[][]byte{{0, 1}}, 1},
		{[][]byte{{1, 2}}, 258},
		{[][]byte{{255}}, 65280},
		{[][]byte{{255, 255}}, 65535},
		{[][]byte{{255, 254}}, 65534},
		{[][]byte{{255, 255, 0, 1}}, 1},
		{[][]byte{{255, 255, 255, 255}}, 65535},
		{[][]byte{{255, 254, 0, 1}}, 65535},
		{[][]byte{{255, 254, 0, 2}}, 1},
		{[][]byte{{128, 0, 128, 0}}, 1},
		{[][]byte{{1, 2, 3}}, 1026},
		{[][]byte{{255, 255, 255}}, 65280},
	} {
		if got := sum.Of(c.l...); got != c.want {
			t.Errorf("Of(%v): %d, not %d", c.l, got, c.want)
		}
	}
}

// The lists' bytes are one row: a 0 is put behind the last one of all, not behind each list.
func TestOfListsOneBehindTheOther(t *testing.T) {
	for _, c := range []struct {
		l    [][]byte
		want uint16
	}{
		{[][]byte{{1}, {2}}, 258},
		{[][]byte{{1}, {}, nil, {2}}, 258},
		{[][]byte{{1}, {2, 3}}, 1026},
		{[][]byte{{1, 2}, {3}}, 1026},
		{[][]byte{{1, 2}, {3, 4}}, 1030},
		{[][]byte{{1}, {2}, {3}}, 1026},
		{[][]byte{{}, {1}}, 256},
		{[][]byte{{1}, {}}, 256},
		{[][]byte{{0}, {1}}, 1},
		{[][]byte{{255, 255}, {0, 1}}, 1},
		{[][]byte{{255}, {255, 0}, {1}}, 1},
	} {
		if got := sum.Of(c.l...); got != c.want {
			t.Errorf("Of(%v): %d, not %d", c.l, got, c.want)
		}
	}
}

func TestOfIsAsReckoned(t *testing.T) {
	r := rand.New(rand.NewSource(2))
	for range 3000 {
		b := some(r, r.Intn(70))
		want := reckoned(b)
		if got := sum.Of(b); got != want {
			t.Fatalf("Of(%v): %d, not %d", b, got, want)
		}
		l := pieces(r, b)
		if got := sum.Of(l...); got != want {
			t.Fatalf("Of(%v): %d, not %d", l, got, want)
		}
		if got := sum.Check(l...); got != 65535-want {
			t.Fatalf("Check(%v): %d, not %d", l, got, 65535-want)
		}
	}
}

func TestOfManyBytes(t *testing.T) {
	b := bytes.Repeat([]byte{255}, 1<<20)
	if got := sum.Of(b); got != 65535 {
		t.Error(got)
	}
	if got := sum.Of(b, []byte{0, 7}); got != 7 {
		t.Error(got)
	}
	r := rand.New(rand.NewSource(3))
	r.Read(b)
	if got, want := sum.Of(b[:1<<19+1], b[1<<19+1:]), reckoned(b); got != want {
		t.Error(got, want)
	}
	// So many words that what goes over has to be carried more than once.
	if got, want := sum.Of(b, b, b), carried(3*uint64(reckoned(b))); got != want {
		t.Error(got, want)
	}
}

// The sum is 0 just if all bytes are 0.
func TestOfIsZeroJustOfZeros(t *testing.T) {
	for n := range 9 {
		b := make([]byte, n)
		if got := sum.Of(b); got != 0 {
			t.Error(n, got)
		}
		for i := range b {
			for _, v := range []byte{1, 128, 255} {
				b[i] = v
				if sum.Of(b) == 0 {
					t.Error(b)
				}
				b[i] = 0
			}
		}
	}
	for _, a := range words() {
		b := []byte{byte(a >> 8), byte(a), byte(^a >> 8), byte(^a)}
		if got := sum.Of(b); got != 65535 {
			t.Errorf("Of(%v): %d", b, got)
		}
	}
}

func TestAdd(t *testing.T) {
	for _, c := range []struct{ a, b, want uint16 }{
		{0, 0, 0}, {0, 1, 1}, {1, 0, 1}, {1, 2, 3},
		{65534, 1, 65535}, {65535, 0, 65535}, {0, 65535, 65535},
		{65535, 1, 1}, {1, 65535, 1}, {65535, 65535, 65535}, {65534, 65534, 65533},
		{32768, 32767, 65535}, {32768, 32768, 1}, {65535, 65534, 65534},
	} {
		if got := sum.Add(c.a, c.b); got != c.want {
			t.Errorf("Add(%d, %d): %d, not %d", c.a, c.b, got, c.want)
		}
	}
	for _, a := range words() {
		for b := range 65536 {
			if got, want := sum.Add(a, uint16(b)), carried(uint64(a)+uint64(b)); got != want {
				t.Fatalf("Add(%d, %d): %d, not %d", a, b, got, want)
			}
		}
	}
}

func TestCheck(t *testing.T) {
	for _, c := range []struct {
		l    [][]byte
		want uint16
	}{
		{nil, 65535},
		{[][]byte{nil, {}}, 65535},
		{[][]byte{{0}}, 65535},
		{[][]byte{{0, 0}, {0, 0}}, 65535},
		{[][]byte{{255, 255}}, 0},
		{[][]byte{{255, 255}, {255}, {255}}, 0},
		{[][]byte{{1}}, 65279},
		{[][]byte{{1}, {2}}, 65277},
		{[][]byte{{0, 1, 242, 3, 244, 245, 246, 247}}, 8717},
		{[][]byte{{2, 0, 0, 0, 0, 0, 0, 5}}, 253<<8 | 250},
	} {
		if got := sum.Check(c.l...); got != c.want {
			t.Errorf("Check(%v): %d, not %d", c.l, got, c.want)
		}
	}
}

func TestFine(t *testing.T) {
	for _, c := range []struct {
		b    []byte
		want bool
	}{
		{nil, false}, {[]byte{}, false}, {[]byte{0}, false}, {[]byte{0, 0}, false}, {make([]byte, 9), false},
		{[]byte{255}, false}, {[]byte{255, 255}, true}, {[]byte{255, 254}, false}, {[]byte{255, 255, 0}, true},
		{[]byte{255, 255, 255, 255}, true}, {[]byte{255, 255, 0, 1}, false}, {[]byte{0, 0, 255, 255}, true},
		{[]byte{255, 254, 0, 1}, true}, {[]byte{255, 254, 0, 2}, false}, {[]byte{254, 255, 1}, true}, {[]byte{255, 254, 1}, false},
		{[]byte{2, 0, 253, 250, 0, 0, 0, 5}, true}, {[]byte{2, 0, 253, 250, 0, 0, 0, 4}, false},
		{[]byte{2, 0, 253, 250, 0, 0, 0, 5, 0}, true}, {[]byte{2, 0, 253, 250, 0, 0, 5, 0}, false},
	} {
		if got := sum.Fine(c.b); got != c.want {
			t.Errorf("Fine(%v): %v", c.b, got)
		}
	}
	r := rand.New(rand.NewSource(4))
	for range 3000 {
		b := some(r, r.Intn(5))
		if got := sum.Fine(b); got != (reckoned(b) == 65535) {
			t.Fatalf("Fine(%v): %v", b, got)
		}
	}
}

func TestTurnIsTheSumTurned(t *testing.T) {
	for _, c := range []struct{ check, old, now, want uint16 }{
		{65535, 0, 1, 65534},
		{65534, 1, 2, 65533},
		{65533, 2, 1, 65534},
		{0, 65535, 1, 65534},
		{0, 1, 0, 1},
		{0, 0, 1, 65534},
		{0xdd2f, 0x5555, 0x3285, 0x0000},
		{8717, 1, 2, 8716},
		{8717, 2, 1, 8718},
		// What the words say, whatever the other words were.
		{65534, 1, 0, 0},
		{65535, 0, 0, 0},
	} {
		if got := sum.Turn(c.check, c.old, c.now); got != c.want {
			t.Errorf("Turn(%d, %d, %d): %d, not %d", c.check, c.old, c.now, got, c.want)
		}
	}
	for _, check := range words() {
		for _, old := range words() {
			for _, now := range words() {
				want := ^carried(uint64(^check) + uint64(^old) + uint64(now))
				if got := sum.Turn(check, old, now); got != want {
					t.Fatalf("Turn(%d, %d, %d): %d, not %d", check, old, now, got, want)
				}
			}
		}
	}
}

// As long as not all bytes are 0 then, it is their check.
func TestTurnIsTheCheckOfWhatIsNow(t *testing.T) {
	r := rand.New(rand.NewSource(5))
	all := words()
	for range 5000 {
		b := some(r, 2+r.Intn(20))
		check := sum.Check(b)
		i := r.Intn(len(b)/2) * 2
		old, now := uint16(b[i])<<8|uint16(b[i+1]), all[r.Intn(len(all))]
		b[i], b[i+1] = byte(now>>8), byte(now)
		if sum.Of(b) == 0 {
			continue
		}
		if got, want := sum.Turn(check, old, now), sum.Check(b); got != want {
			t.Fatalf("Turn(%d, %d, %d): %d, not %d", check, old, now, got, want)
		}
	}
}

// P3.4
func TestTheSumOfParts(t *testing.T) {
	r := rand.New(rand.NewSource(6))
	for range 3000 {
		a, b := some(r, 2*r.Intn(20)), some(r, r.Intn(40))
		want := sum.Add(sum.Of(a), sum.Of(b))
		if got := sum.Of(a, b); got != want {
			t.Fatalf("Of(%v, %v): %d, not %d", a, b, got, want)
		}
		if got := sum.Of(append(bytes.Clone(a), b...)); got != want {
			t.Fatalf("Of(%v and %v): %d, not %d", a, b, got, want)
		}
	}
}

// P3.4
func TestTheOrderOfWordsSaysNothing(t *testing.T) {
	r := rand.New(rand.NewSource(7))
	for range 1000 {
		b := some(r, 2*r.Intn(20))
		was := sum.Of(b)
		r.Shuffle(len(b)/2, func(i, j int) {
			b[2*i], b[2*j] = b[2*j], b[2*i]
			b[2*i+1], b[2*j+1] = b[2*j+1], b[2*i+1]
		})
		if got := sum.Of(b); got != was {
			t.Fatalf("Of(%v): %d, not %d", b, got, was)
		}
	}
	if sum.Of([]byte{1, 2}) == sum.Of([]byte{2, 1}) {
		t.Error("the order of bytes says something")
	}
}

// P3.5
func TestAChangedWordIsTold(t *testing.T) {
	for _, old := range words() {
		b := []byte{7, 9, byte(old >> 8), byte(old), 200}
		was := sum.Of(b)
		for now := range 65536 {
			b[2], b[3] = byte(now>>8), byte(now)
			same := uint16(now) == old || old == 0 && now == 65535 || old == 65535 && now == 0
			if got := sum.Of(b); (got == was) != same {
				t.Fatalf("%d is %d now: the sum was %d and is %d", old, now, was, got)
			}
		}
	}
}

// P3.5
func TestATurnedBitIsTold(t *testing.T) {
	r := rand.New(rand.NewSource(8))
	for range 300 {
		b := some(r, 1+r.Intn(20))
		was, check := sum.Of(b), sum.Check(b)
		for bit := range 8 * len(b) {
			b[bit/8] ^= 1 << (bit % 8)
			if sum.Of(b) == was || sum.Check(b) == check {
				t.Fatalf("bit %d of %v is not told", bit, b)
			}
			b[bit/8] ^= 1 << (bit % 8)
		}
	}
}

// P3.6
func TestBytesWithTheirCheckAreFine(t *testing.T) {
	r := rand.New(rand.NewSource(9))
	for range 1000 {
		b := some(r, 2*r.Intn(20))
		if r.Intn(10) == 0 {
			clear(b)
		}
		check := sum.Check(b)
		b = append(b, byte(check>>8), byte(check))
		if !sum.Fine(b) {
			t.Fatalf("%v is not fine", b)
		}
		for bit := range 8 * len(b) {
			b[bit/8] ^= 1 << (bit % 8)
			if sum.Fine(b) {
				t.Fatalf("%v is fine", b)
			}
			b[bit/8] ^= 1 << (bit % 8)
		}
	}
}

func TestListsStayAsTheyAre(t *testing.T) {
	mem := []byte{1, 2, 3, 4, 5}
	l := [][]byte{mem[:3], mem[:1], mem[:0]}
	if got := sum.Of(l[:1]...); got != 1026 {
		t.Error(got)
	}
	if got := sum.Of(l...); got != 1027 {
		t.Error(got)
	}
	if got := sum.Check(l...); got != 65535-1027 {
		t.Error(got)
	}
	sum.Fine(mem[:2])
	if !bytes.Equal(mem, []byte{1, 2, 3, 4, 5}) || len(l) != 3 || len(l[0]) != 3 || len(l[1]) != 1 || len(l[2]) != 0 {
		t.Error(mem, l)
	}
}
