package segment_test

import (
	"bytes"
	"math/rand"
	"slices"
	"testing"

	"undertow/api"
	"undertow/option"
	"undertow/segment"
	"undertow/sum"
)

// sealed is bytes, of which the third and the fourth are set to the check, as the chapter has it.
func sealed(l ...[]byte) []byte {
	b := slices.Concat(l...)
	b[2], b[3] = 0, 0
	n := 0
	for i, one := range b {
		if i%2 == 0 {
			n += int(one) * 256
		} else {
			n += int(one)
		}
	}
	n = 65535 - (n-1)%65535 - 1 // No bytes here are all 0, so n is from 1 on.
	b[2], b[3] = byte(n/256), byte(n)
	return b
}

// head is eight bytes: a kind, how many times four bytes there are, no check, and the number 5.
func head(kind, units byte) []byte {
	return []byte{kind, units, 0, 0, 0, 0, 0, 5}
}

// noise is n bytes that say nothing to an option.
func noise(n int) []byte {
	return bytes.Repeat([]byte{1}, n)
}

func TestEncode(t *testing.T) {
	for _, c := range []struct {
		s    api.Segment
		want []byte
	}{
		{api.Segment{Kind: api.SegAck, Num: 5}, []byte{2, 0, 253, 250, 0, 0, 0, 5}},
		{api.Segment{Kind: api.SegAck}, []byte{2, 0, 253, 255, 0, 0, 0, 0}},
		{api.Segment{Kind: api.SegAck, Num: 0x01020304}, []byte{2, 0, 249, 249, 1, 2, 3, 4}},
		{api.Segment{Kind: api.SegAck, Num: 0xffffffff}, []byte{2, 0, 253, 255, 255, 255, 255, 255}},
		// The sum of the others is 65535, so the check is 0.
		{api.Segment{Kind: api.SegAck, Num: 0xfdff}, []byte{2, 0, 0, 0, 0, 0, 253, 255}},
		{api.Segment{Kind: api.SegData, Body: []byte{9}}, []byte{1, 0, 245, 255, 0, 0, 0, 0, 9}},
		{api.Segment{Kind: api.SegData, Num: 1, Body: []byte{9, 8, 7}}, []byte{1, 0, 238, 246, 0, 0, 0, 1, 9, 8, 7}},
		{
			api.Segment{Kind: api.SegData, Num: 2, Opt: api.Options{Mss: 1460}, Body: []byte{255, 255}},
			[]byte{1, 1, 247, 68, 0, 0, 0, 2, 2, 4, 5, 180, 255, 255},
		},
		{
			api.Segment{Kind: api.SegAck, Num: 3, Opt: api.Options{Permit: true, Blocks: []api.Block{{Left: 1, Right: 2}}}},
			[]byte{2, 3, 244, 234, 0, 0, 0, 3, 4, 2, 5, 10, 0, 0, 0, 1, 0, 0, 0, 2},
		},
	} {
		if got, e := segment.Encode(c.s); !bytes.Equal(got, c.want) || e != api.OK {
			t.Errorf("Encode(%+v): %v, %d, not %v", c.s, got, e, c.want)
		}
		if got, e := segment.Decode(c.want); !segment.Same(got, c.s) || e != api.OK {
			t.Errorf("Decode(%v): %+v, %d, not %+v", c.want, got, e, c.s)
		}
	}
}

// P5.2, P5.4
func TestThereAndBack(t *testing.T) {
	r := rand.New(rand.NewSource(3))
	l := []api.Segment{}
	for _, c := range fine() {
		l = append(l, c.s)
	}
	for range 5000 {
		l = append(l, some(r))
	}
	fit := 0
	for _, s := range l {
		b, e := segment.Encode(s)
		if e != api.OK {
			continue
		}
		fit++
		opt, _ := option.Encode(s.Opt)
		num := []byte{byte(s.Num >> 24), byte(s.Num >> 16), byte(s.Num >> 8), byte(s.Num)}
		if want := sealed([]byte{byte(s.Kind), byte(len(opt) / 4), 0, 0}, num, opt, s.Body); !bytes.Equal(b, want) || len(b) != segment.Size(s) || !sum.Fine(b) {
			t.Fatalf("Encode(%+v): %v, not %v", s, b, want)
		}
		got, e := segment.Decode(b)
		if !segment.Same(got, s) || e != api.OK {
			t.Fatalf("%+v is decoded as %+v, %d", s, got, e)
		}
	}
	if fit < 4000 {
		t.Error("too few that may be:", fit)
	}
}

func TestDecode(t *testing.T) {
	for _, c := range []struct {
		b    []byte
		want api.Segment
	}{
		{sealed(head(2, 0)), api.Segment{Kind: 2, Num: 5}},
		{sealed(head(1, 0), []byte{7}), api.Segment{Kind: 1, Num: 5, Body: []byte{7}}},
		{sealed(head(1, 0), data(2048).Body), api.Segment{Kind: 1, Num: 5, Body: data(2048).Body}},
		// Options that are told in another way than Encode has it.
		{sealed(head(2, 1), []byte{0, 0, 0, 0}), api.Segment{Kind: 2, Num: 5}},
		{sealed(head(2, 1), noise(4)), api.Segment{Kind: 2, Num: 5}},
		{sealed(head(2, 1), []byte{99, 2, 1, 1}), api.Segment{Kind: 2, Num: 5}},
		{sealed(head(2, 1), []byte{0, 2, 1, 7}), api.Segment{Kind: 2, Num: 5}},
		{sealed(head(2, 2), []byte{1, 1, 4, 2, 2, 4, 0, 9}), api.Segment{Kind: 2, Num: 5, Opt: api.Options{Mss: 9, Permit: true}}},
		{sealed(head(2, 1), []byte{1, 3, 3, 200}), api.Segment{Kind: 2, Num: 5, Opt: api.Options{HasScale: true, Scale: 14}}},
		{sealed(head(2, 10), noise(40)), api.Segment{Kind: 2, Num: 5}},
		{sealed(head(1, 10), noise(40), []byte{4, 2}), api.Segment{Kind: 1, Num: 5, Body: []byte{4, 2}}},
		{sealed(head(1, 10), noise(40), data(2048).Body), api.Segment{Kind: 1, Num: 5, Body: data(2048).Body}},
		{sealed(head(1, 1), []byte{2, 4, 0, 0, 1}), api.Segment{Kind: 1, Num: 5, Body: []byte{1}}},
		// A check of 65535 in the place of 0 has the same sum.
		{[]byte{2, 0, 255, 255, 0, 0, 253, 255}, api.Segment{Kind: 2, Num: 0xfdff}},
	} {
		if got, e := segment.Decode(c.b); !segment.Same(got, c.want) || e != api.OK {
			t.Errorf("Decode(%v): %+v, %d, not %+v", c.b, got, e, c.want)
		}
	}
}

// P5.3
func TestDecodeErrors(t *testing.T) {
	block := []byte{5, 10, 0, 0, 0, 1, 0, 0, 0, 2, 1, 1}
	unsealed := func(b []byte) []byte {
		b[3]++
		return b
	}
	for name, c := range map[string]struct {
		b    []byte
		want api.Errno
	}{
		"nothing":                    {nil, api.ErrShort},
		"no bytes":                   {[]byte{}, api.ErrShort},
		"seven bytes":                {[]byte{2, 0, 253, 255, 0, 0, 0}, api.ErrShort},
		"seven bytes, not fine":      {[]byte{3, 99, 0, 0, 0, 0, 0}, api.ErrShort},
		"too long":                   {sealed(head(1, 10), noise(40), data(2049).Body), api.ErrLong},
		"too long, not fine":         {make([]byte, 2097), api.ErrLong},
		"too long, no kind":          {sealed(head(3, 0), make([]byte, 2089)), api.ErrLong},
		"much too long":              {make([]byte, 1<<20), api.ErrLong},
		"not fine":                   {unsealed(sealed(head(2, 0))), api.ErrSum},
		"all 0":                      {make([]byte, 8), api.ErrSum},
		"all 0, as long as may be":   {make([]byte, 2096), api.ErrSum},
		"not fine, no kind":          {unsealed(sealed(head(3, 0))), api.ErrSum},
		"not fine, options":          {unsealed(sealed(head(2, 11))), api.ErrSum},
		"no kind: 3":                 {sealed(head(3, 0)), api.ErrKind},
		"no kind: 0":                 {sealed([]byte{0, 0, 0, 0, 0, 0, 0, 1}), api.ErrKind},
		"no kind: 255":               {sealed(head(255, 0)), api.ErrKind},
		"no kind, options":           {sealed(head(3, 11)), api.ErrKind},
		"no kind, short":             {sealed(head(0, 3)), api.ErrKind},
		"no kind, wrong options":     {sealed(head(4, 1), []byte{2, 1, 0, 0}), api.ErrKind},
		"more options than may be":   {sealed(head(2, 11), noise(44)), api.ErrForm},
		"more, and not there":        {sealed(head(2, 11)), api.ErrForm},
		"many more":                  {sealed(head(2, 255)), api.ErrForm},
		"64 times four":              {sealed(head(2, 64)), api.ErrForm},
		"more, data":                 {sealed(head(1, 11), noise(50)), api.ErrForm},
		"options not there":          {sealed(head(2, 1)), api.ErrShort},
		"options not all there":      {sealed(head(2, 1), noise(3)), api.ErrShort},
		"ten times four, one less":   {sealed(head(1, 10), noise(39)), api.ErrShort},
		"wrong and not all there":    {sealed(head(2, 2), []byte{2, 1, 1, 1}), api.ErrShort},
		"options: no number":         {sealed(head(2, 1), []byte{1, 1, 1, 4}), api.ErrShort},
		"options: number below 2":    {sealed(head(2, 1), []byte{2, 1, 1, 1}), api.ErrForm},
		"options: bytes lack":        {sealed(head(2, 1), []byte{1, 2, 4, 5}), api.ErrShort},
		"options: lack, data":        {sealed(head(1, 1), []byte{1, 2, 4, 5}, []byte{180}), api.ErrShort},
		"options: another number":    {sealed(head(2, 1), []byte{2, 3, 1, 1}), api.ErrForm},
		"options: lack, ack, body":   {sealed(head(2, 1), []byte{1, 2, 4, 5}, []byte{180}), api.ErrShort},
		"data without body":          {sealed(head(1, 0)), api.ErrForm},
		"data without body, options": {sealed(head(1, 1), []byte{4, 2, 0, 0}), api.ErrForm},
		"data with a block":          {sealed(head(1, 3), block, []byte{1}), api.ErrForm},
		"data with a block, long":    {sealed(head(1, 3), block, data(2049).Body), api.ErrForm},
		"ack with body":              {sealed(head(2, 0), []byte{1}), api.ErrForm},
		"ack with a body of 0":       {sealed(head(2, 0), []byte{0}), api.ErrForm},
		"ack with body, block":       {sealed(head(2, 3), block, []byte{1, 2}), api.ErrForm},
		"ack with a long body":       {sealed(head(2, 0), data(2049).Body), api.ErrForm},
		"long body":                  {sealed(head(1, 0), data(2049).Body), api.ErrLong},
		"long body, all the room":    {sealed(head(1, 0), data(2088).Body), api.ErrLong},
		"long body, options":         {sealed(head(1, 9), noise(36), data(2049).Body), api.ErrLong},
	} {
		if got, e := segment.Decode(c.b); !segment.Same(got, api.Segment{}) || e != c.want {
			t.Errorf("%s: %+v, %d, not %d", name, got, e, c.want)
		}
	}
}

// What lies behind a list's length is not there.
func TestDecodeLooksNoFurtherThanTheList(t *testing.T) {
	mem := sealed(head(1, 0), []byte{1, 2, 3, 4})
	b := sealed(mem[:10])
	copy(mem, b)
	if got, e := segment.Decode(mem[:10]); e != api.OK || !bytes.Equal(got.Body, []byte{1, 2}) {
		t.Error(got, e)
	}
	if _, e := segment.Decode(mem[:7]); e != api.ErrShort {
		t.Error(e)
	}
	if !bytes.Equal(mem[10:], []byte{3, 4}) || !bytes.Equal(mem[:10], b) {
		t.Error(mem)
	}
}

func TestDecodeKeepsNothing(t *testing.T) {
	for _, s := range []api.Segment{data(3), ack(2)} {
		mem, _ := segment.Encode(s)
		was := bytes.Clone(mem)
		a, _ := segment.Decode(mem)
		b, _ := segment.Decode(mem)
		clear(a.Body)
		clear(a.Opt.Blocks)
		if !bytes.Equal(mem, was) {
			t.Error("what is done to an answer is seen:", mem)
		}
		clear(mem)
		if !segment.Same(b, s) {
			t.Error("memory is shared:", b)
		}
	}
}

// piece is an option as bytes, as good as always one that may be.
func piece(r *rand.Rand) []byte {
	sizes := [][2]byte{{2, 4}, {3, 3}, {4, 2}, {5, 10}, {5, 18}, {5, 34}, {8, 10}, {6, 2}, {7, 5}, {255, 2}}
	if r.Intn(6) == 0 {
		return []byte{byte(r.Intn(2))}
	}
	s := sizes[r.Intn(len(sizes))]
	b := make([]byte, s[1])
	r.Read(b)
	b[0], b[1] = s[0], s[1]
	if r.Intn(40) == 0 {
		b[r.Intn(2)] = byte(r.Intn(12))
	}
	return b
}

// told is bytes that are fine, with options told in any way, often such as may be.
func told(r *rand.Rand) []byte {
	var opt []byte
	for p := piece(r); len(opt)+len(p) <= 40 && r.Intn(5) > 0; p = piece(r) {
		opt = append(opt, p...)
	}
	for len(opt)%4 != 0 {
		opt = append(opt, byte(r.Intn(2)))
	}
	kind := byte(1 + r.Intn(2))
	var body []byte
	if kind == api.SegData || r.Intn(10) == 0 {
		body = make([]byte, r.Intn(30))
		r.Read(body)
	}
	h := head(kind, byte(len(opt)/4))
	if r.Intn(20) == 0 {
		h[r.Intn(2)] = byte(r.Intn(13)) + 1
	}
	r.Read(h[4:])
	return sealed(h, opt, body)
}

// read is what fine bytes of a length that may be say, told step by step from the chapter.
func read(b []byte) (api.Segment, api.Errno) {
	if b[0] != 1 && b[0] != 2 {
		return api.Segment{}, api.ErrKind
	}
	if b[1] > 10 {
		return api.Segment{}, api.ErrForm
	}
	behind := 8 + 4*int(b[1])
	if len(b) < behind {
		return api.Segment{}, api.ErrShort
	}
	opt, e := option.Parse(b[8:behind])
	if e != api.OK {
		return api.Segment{}, e
	}
	body := b[behind:]
	if e := option.Check(opt); e != api.OK {
		return api.Segment{}, e
	}
	if b[0] == 1 && (len(body) == 0 || len(opt.Blocks) > 0) || b[0] == 2 && len(body) > 0 {
		return api.Segment{}, api.ErrForm
	}
	num := uint32(b[4])<<24 | uint32(b[5])<<16 | uint32(b[6])<<8 | uint32(b[7])
	return api.Segment{Kind: int(b[0]), Num: num, Opt: opt, Body: body}, api.OK
}

// P5.3, P5.5
func TestDecodeIsAsToldAndCanBeEncoded(t *testing.T) {
	r := rand.New(rand.NewSource(4))
	count := map[api.Errno]int{}
	other := 0
	for range 30000 {
		b := told(r)
		want, e := read(b)
		s, ge := segment.Decode(b)
		if !segment.Same(s, want) || ge != e {
			t.Fatalf("Decode(%v): %+v, %d, not %+v, %d", b, s, ge, want, e)
		}
		count[e]++
		if e != api.OK {
			continue
		}
		again, e := segment.Encode(s)
		if e != api.OK || segment.Check(s) != api.OK || segment.Size(s) != len(again) || len(again) > len(b) {
			t.Fatalf("%+v, which was decoded from %v, is encoded as %v, %d", s, b, again, e)
		}
		if got, e := segment.Decode(again); !segment.Same(got, s) || e != api.OK {
			t.Fatalf("%+v, which was decoded from %v, is %+v, %d then", s, b, got, e)
		}
		if !bytes.Equal(again, b) {
			other++
		}
	}
	if count[api.OK] < 5000 || count[api.ErrForm] == 0 || count[api.ErrShort] == 0 || count[api.ErrKind] == 0 || other < 1000 {
		t.Error("too few of a kind:", count, other)
	}
}

// P5.6
func TestOneTurnedBitIsTold(t *testing.T) {
	r := rand.New(rand.NewSource(5))
	l := []api.Segment{{Kind: api.SegAck, Num: 0xfdff}}
	for _, c := range fine() {
		l = append(l, c.s)
	}
	for range 100 {
		l = append(l, some(r))
	}
	for _, s := range l {
		b, _ := segment.Encode(s)
		for i := range b {
			for bit := range 8 {
				b[i] ^= 1 << bit
				if got, e := segment.Decode(b); e != api.ErrSum || !segment.Same(got, api.Segment{}) {
					t.Fatalf("bit %d of byte %d of %+v: %+v, %d", bit, i, s, got, e)
				}
				b[i] ^= 1 << bit
			}
		}
	}
}

// Whatever is handed in, what is answered is a segment that may be, or none.
func TestDecodeOfAnyBytes(t *testing.T) {
	r := rand.New(rand.NewSource(6))
	for i := range 20000 {
		b := make([]byte, r.Intn(70))
		r.Read(b)
		if i%2 == 0 && len(b) >= 8 {
			b[0], b[1] = byte(1+r.Intn(2)), byte(r.Intn(4))
			b = sealed(b)
		}
		if s, e := segment.Decode(b); e == api.OK && segment.Check(s) != api.OK || e != api.OK && !segment.Same(s, api.Segment{}) {
			t.Fatalf("Decode(%v): %+v, %d", b, s, e)
		}
	}
}
