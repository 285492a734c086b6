package octet_test

import (
	"bytes"
	"math"
	"math/rand"
	"testing"

	"undertow/api"
	"undertow/octet"
)

// The calls with the types that the chapter lists.
var (
	_ func(*octet.Writer, byte)                    = (*octet.Writer).One
	_ func(*octet.Writer, uint16)                  = (*octet.Writer).Two
	_ func(*octet.Writer, uint32)                  = (*octet.Writer).Four
	_ func(*octet.Writer, ...byte)                 = (*octet.Writer).All
	_ func(*octet.Writer) int                      = (*octet.Writer).Len
	_ func(*octet.Writer) []byte                   = (*octet.Writer).Bytes
	_ func([]byte) *octet.Reader                   = octet.NewReader
	_ func(*octet.Reader) (byte, api.Errno)        = (*octet.Reader).One
	_ func(*octet.Reader) (uint16, api.Errno)      = (*octet.Reader).Two
	_ func(*octet.Reader) (uint32, api.Errno)      = (*octet.Reader).Four
	_ func(*octet.Reader, int) ([]byte, api.Errno) = (*octet.Reader).Take
	_ func(*octet.Reader) int                      = (*octet.Reader).Left
	_ func(*octet.Reader) []byte                   = (*octet.Reader).Rest
)

// has fails if a writer has other bytes than these.
func has(t *testing.T, w *octet.Writer, want ...byte) {
	t.Helper()
	if b := w.Bytes(); !bytes.Equal(b, want) {
		t.Errorf("bytes: %v, not %v", b, want)
	}
	if n := w.Len(); n != len(want) {
		t.Errorf("length: %d, not %d", n, len(want))
	}
}

// stands fails if a reader has other bytes ahead than these.
func stands(t *testing.T, r *octet.Reader, want ...byte) {
	t.Helper()
	if b := r.Rest(); !bytes.Equal(b, want) {
		t.Errorf("ahead: %v, not %v", b, want)
	}
	if n := r.Left(); n != len(want) {
		t.Errorf("left: %d, not %d", n, len(want))
	}
}

func TestWriterBeginsWithoutBytes(t *testing.T) {
	var w octet.Writer
	has(t, &w)
	w.All()
	has(t, &w)
	w.All([]byte{}...)
	has(t, &w)
}

func TestWriterSetsNumbersBehindWhatIsThere(t *testing.T) {
	var w octet.Writer
	w.Four(1)
	w.Two(258)
	has(t, &w, 0, 0, 0, 1, 1, 2)
	w.One(7)
	has(t, &w, 0, 0, 0, 1, 1, 2, 7)
	w.All(9, 8)
	has(t, &w, 0, 0, 0, 1, 1, 2, 7, 9, 8)
	w.All()
	has(t, &w, 0, 0, 0, 1, 1, 2, 7, 9, 8)
}

func TestWriterEachNumber(t *testing.T) {
	for _, c := range []struct {
		write func(w *octet.Writer)
		want  []byte
	}{
		{func(w *octet.Writer) { w.One(0) }, []byte{0}},
		{func(w *octet.Writer) { w.One(255) }, []byte{255}},
		{func(w *octet.Writer) { w.Two(0) }, []byte{0, 0}},
		{func(w *octet.Writer) { w.Two(255) }, []byte{0, 255}},
		{func(w *octet.Writer) { w.Two(256) }, []byte{1, 0}},
		{func(w *octet.Writer) { w.Two(65535) }, []byte{255, 255}},
		{func(w *octet.Writer) { w.Four(0) }, []byte{0, 0, 0, 0}},
		{func(w *octet.Writer) { w.Four(0x01020304) }, []byte{1, 2, 3, 4}},
		{func(w *octet.Writer) { w.Four(0xfffefdfc) }, []byte{255, 254, 253, 252}},
		{func(w *octet.Writer) { w.Four(math.MaxUint32) }, []byte{255, 255, 255, 255}},
		{func(w *octet.Writer) { w.All(1) }, []byte{1}},
		{func(w *octet.Writer) { w.All(1, 0, 255) }, []byte{1, 0, 255}},
	} {
		var w octet.Writer
		c.write(&w)
		has(t, &w, c.want...)
	}
}

func TestWriterOfNil(t *testing.T) {
	var w *octet.Writer
	w.One(1)
	w.Two(2)
	w.Four(3)
	w.All(4, 5)
	w.All()
	has(t, w)
}

func TestWriterKeepsNothingThatIsHandedIn(t *testing.T) {
	var w octet.Writer
	mem := []byte{1, 2, 3, 4}
	w.All(mem[:2]...)
	mem[0] = 99
	has(t, &w, 1, 2)
	w.One(5)
	if !bytes.Equal(mem, []byte{99, 2, 3, 4}) {
		t.Error(mem)
	}
	w.All(w.Bytes()...)
	has(t, &w, 1, 2, 5, 1, 2, 5)
}

func TestWriterAnswersNewMemory(t *testing.T) {
	var w octet.Writer
	w.All(1, 2, 3)
	a, b := w.Bytes(), w.Bytes()
	a[0] = 99
	a = append(a, 98)
	w.One(4)
	if !bytes.Equal(b, []byte{1, 2, 3}) || !bytes.Equal(a, []byte{99, 2, 3, 98}) {
		t.Error(a, b)
	}
	has(t, &w, 1, 2, 3, 4)
}

func TestACopiedWriterGoesItsOwnWay(t *testing.T) {
	var w octet.Writer
	w.All(1, 2, 3)
	w.One(4)
	v, u := w, w
	w.One(5)
	v.One(6)
	has(t, &w, 1, 2, 3, 4, 5)
	has(t, &v, 1, 2, 3, 4, 6)
	has(t, &u, 1, 2, 3, 4)
	u.Two(1)
	v.One(7)
	has(t, &w, 1, 2, 3, 4, 5)
	has(t, &v, 1, 2, 3, 4, 6, 7)
	has(t, &u, 1, 2, 3, 4, 0, 1)
	x := w
	w = octet.Writer{}
	w.One(9)
	x.One(8)
	has(t, &w, 9)
	has(t, &x, 1, 2, 3, 4, 5, 8)
}

func TestReaderReadsNumbers(t *testing.T) {
	r := octet.NewReader([]byte{7, 1, 2, 255, 254, 253, 252, 9})
	stands(t, r, 7, 1, 2, 255, 254, 253, 252, 9)
	if n, e := r.One(); n != 7 || e != api.OK {
		t.Error(n, e)
	}
	stands(t, r, 1, 2, 255, 254, 253, 252, 9)
	if n, e := r.Two(); n != 258 || e != api.OK {
		t.Error(n, e)
	}
	stands(t, r, 255, 254, 253, 252, 9)
	if n, e := r.Four(); n != 0xfffefdfc || e != api.OK {
		t.Error(n, e)
	}
	stands(t, r, 9)
	if b, e := r.Take(1); !bytes.Equal(b, []byte{9}) || e != api.OK {
		t.Error(b, e)
	}
	stands(t, r)
}

func TestReaderIsShort(t *testing.T) {
	all := []byte{1, 2, 3, 4}
	for n := range 5 {
		r := octet.NewReader(all[:n])
		if n < 4 {
			if got, e := r.Four(); got != 0 || e != api.ErrShort {
				t.Error(n, got, e)
			}
		}
		if n < 2 {
			if got, e := r.Two(); got != 0 || e != api.ErrShort {
				t.Error(n, got, e)
			}
		}
		if n < 1 {
			if got, e := r.One(); got != 0 || e != api.ErrShort {
				t.Error(n, got, e)
			}
		}
		for _, more := range []int{n + 1, n + 2, math.MaxInt} {
			if b, e := r.Take(more); len(b) != 0 || e != api.ErrShort {
				t.Error(n, more, b, e)
			}
		}
		stands(t, r, all[:n]...)
	}
}

func TestReaderTakes(t *testing.T) {
	r := octet.NewReader([]byte{1, 2, 3, 4, 5})
	for _, c := range []struct {
		n    int
		want []byte
		e    api.Errno
		rest []byte
	}{
		{0, nil, api.OK, []byte{1, 2, 3, 4, 5}},
		{-1, nil, api.ErrArg, []byte{1, 2, 3, 4, 5}},
		{math.MinInt, nil, api.ErrArg, []byte{1, 2, 3, 4, 5}},
		{2, []byte{1, 2}, api.OK, []byte{3, 4, 5}},
		{4, nil, api.ErrShort, []byte{3, 4, 5}},
		{math.MaxInt, nil, api.ErrShort, []byte{3, 4, 5}},
		{3, []byte{3, 4, 5}, api.OK, nil},
		{0, nil, api.OK, nil},
		{1, nil, api.ErrShort, nil},
		{-1, nil, api.ErrArg, nil},
	} {
		if b, e := r.Take(c.n); !bytes.Equal(b, c.want) || e != c.e {
			t.Errorf("Take(%d): %v, %d, not %v, %d", c.n, b, e, c.want, c.e)
		}
		stands(t, r, c.rest...)
	}
}

func TestReaderOfNoBytes(t *testing.T) {
	for _, r := range []*octet.Reader{octet.NewReader(nil), octet.NewReader([]byte{})} {
		stands(t, r)
		if n, e := r.One(); n != 0 || e != api.ErrShort {
			t.Error(n, e)
		}
		if b, e := r.Take(0); len(b) != 0 || e != api.OK {
			t.Error(b, e)
		}
	}
}

func TestReaderOfNil(t *testing.T) {
	var r *octet.Reader
	if n, e := r.One(); n != 0 || e != api.ErrNil {
		t.Error(n, e)
	}
	if n, e := r.Two(); n != 0 || e != api.ErrNil {
		t.Error(n, e)
	}
	if n, e := r.Four(); n != 0 || e != api.ErrNil {
		t.Error(n, e)
	}
	for _, n := range []int{-1, 0, 1} {
		if b, e := r.Take(n); len(b) != 0 || e != api.ErrNil {
			t.Error(n, b, e)
		}
	}
	stands(t, r)
}

func TestReaderKeepsItsBytesByItself(t *testing.T) {
	mem := []byte{1, 2, 3, 4, 5}
	r := octet.NewReader(mem[:4])
	mem[0] = 99
	if n, e := r.Two(); n != 258 || e != api.OK {
		t.Error(n, e)
	}
	b, _ := r.Take(1)
	b[0] = 98
	b = append(b, 97, 96)
	rest := r.Rest()
	stands(t, r, 4)
	rest[0] = 95
	rest = append(rest, 94)
	stands(t, r, 4)
	if !bytes.Equal(mem, []byte{99, 2, 3, 4, 5}) || !bytes.Equal(b, []byte{98, 97, 96}) || !bytes.Equal(rest, []byte{95, 94}) {
		t.Error(mem, b, rest)
	}
}

// P2.3: step writes something, and answers what reads it, and whether that was it.
func step(rnd *rand.Rand, w *octet.Writer) func(r *octet.Reader) bool {
	switch n := rnd.Uint32(); rnd.Intn(4) {
	case 0:
		w.One(byte(n))
		return func(r *octet.Reader) bool { m, e := r.One(); return m == byte(n) && e == api.OK }
	case 1:
		w.Two(uint16(n))
		return func(r *octet.Reader) bool { m, e := r.Two(); return m == uint16(n) && e == api.OK }
	case 2:
		w.Four(n)
		return func(r *octet.Reader) bool { m, e := r.Four(); return m == n && e == api.OK }
	}
	l := make([]byte, rnd.Intn(9))
	rnd.Read(l)
	w.All(l...)
	return func(r *octet.Reader) bool { m, e := r.Take(len(l)); return bytes.Equal(m, l) && e == api.OK }
}

func TestWhatWasWrittenIsRead(t *testing.T) {
	rnd := rand.New(rand.NewSource(1))
	for range 200 {
		var w octet.Writer
		var reads []func(r *octet.Reader) bool
		for range rnd.Intn(40) {
			reads = append(reads, step(rnd, &w))
		}
		r := octet.NewReader(w.Bytes())
		if r.Left() != w.Len() {
			t.Fatal(r.Left(), w.Len())
		}
		for i, read := range reads {
			if !read(r) {
				t.Fatalf("number %d of %d is read otherwise", i, len(reads))
			}
		}
		stands(t, r)
	}
}

func TestManyBytes(t *testing.T) {
	var w octet.Writer
	for i := range 1 << 20 {
		w.One(byte(i))
	}
	r := octet.NewReader(w.Bytes())
	for i := range 1 << 20 {
		if b, e := r.One(); b != byte(i) || e != api.OK {
			t.Fatal(i, b, e)
		}
	}
	stands(t, r)
}
