package script_test

import (
	"bytes"
	"math"
	"slices"
	"strings"
	"testing"

	"undertow/api"
	"undertow/loop"
	"undertow/script"
)

// The calls with the types that the chapter lists.
var (
	_ func(api.Config) string                              = script.Head
	_ func(loop.Op) (string, api.Errno)                    = script.Line
	_ func(api.Config, ...loop.Op) (string, api.Errno)     = script.Print
	_ func(string) (api.Config, bool)                      = script.ParseHead
	_ func(string) (loop.Op, bool)                         = script.ParseLine
	_ func(string) (api.Config, []loop.Op, int, api.Errno) = script.Parse
)

// small is the configuration of the chapter's example.
func small() api.Config {
	return api.Config{First: 7, Mss: 10, Buffer: 100, Start: 20, Most: 1000, MinRto: 100, MaxRto: 5000}
}

// smallHead is its head.
const smallHead = "sender 7 10 100 20 1000 100 5000 0"

// write is an operation that writes.
func write(p ...byte) loop.Op { return loop.Op{Kind: loop.Write, B: p} }

// op is an operation that has a number.
func op(kind, n int) loop.Op { return loop.Op{Kind: kind, N: n} }

// same tells whether two operations are the same.
func same(a, b loop.Op) bool {
	return a.Kind == b.Kind && a.N == b.N && bytes.Equal(a.B, b.B)
}

// clones is operations in memory of their own.
func clones(ops []loop.Op) []loop.Op {
	l := slices.Clone(ops)
	for i := range l {
		l[i].B = slices.Clone(l[i].B)
	}
	return l
}

// heads is configurations, and their heads.
func heads() map[string]api.Config {
	return map[string]api.Config{
		smallHead:                        small(),
		"sender 0 0 0 0 0 0 0 0":         {},
		"sender 1 2 3 4 5 6 7 8":         {First: 1, Mss: 2, Buffer: 3, Start: 4, Most: 5, MinRto: 6, MaxRto: 7, Floor: 8},
		"sender 8 7 6 5 4 3 2 1":         {First: 8, Mss: 7, Buffer: 6, Start: 5, Most: 4, MinRto: 3, MaxRto: 2, Floor: 1},
		"sender 0 -1 -9 -10 0 1 -100 90": {Mss: -1, Buffer: -9, Start: -10, MinRto: 1, MaxRto: -100, Floor: 90},
		"sender 4294967295 9223372036854775807 -9223372036854775808 2147483648 -2147483649 4294967296 -1 9223372036854775806": {
			First: math.MaxUint32, Mss: math.MaxInt, Buffer: math.MinInt, Start: 1 << 31, Most: -1<<31 - 1, MinRto: 1 << 32, MaxRto: -1, Floor: math.MaxInt - 1,
		},
		"sender 4294967295 2048 65536 2048 1048576 1 68719476736 68719476736": {
			First: math.MaxUint32, Mss: api.MaxMss, Buffer: api.MaxBuffer, Start: api.MaxMss, Most: api.MaxWindow, MinRto: 1, MaxRto: api.MaxRto, Floor: api.MaxRto,
		},
	}
}

// lines is operations, and their lines.
func lines() map[string]loop.Op {
	return map[string]loop.Op{
		"write -":                       write(),
		"write 00":                      write(0),
		"write 01ff":                    write(1, 255),
		"write 0123456789abcdef":        write(0x01, 0x23, 0x45, 0x67, 0x89, 0xab, 0xcd, 0xef),
		"write 0000":                    write(0, 0),
		"write f00f":                    write(240, 15),
		"tick 0":                        op(1, 0),
		"tick 9":                        op(1, 9),
		"tick -1":                       op(1, -1),
		"data 0":                        op(2, 0),
		"dropdata 10":                   op(3, 10),
		"copydata 200":                  op(4, 200),
		"back 4096":                     op(5, 4096),
		"dropback -70":                  op(6, -70),
		"copyback 123456789":            op(7, 123456789),
		"tick 9223372036854775807":      op(1, math.MaxInt),
		"tick -9223372036854775808":     op(1, math.MinInt),
		"copyback -9223372036854775807": op(7, math.MinInt+1),
		"data 4611686018427387904":      op(2, api.MaxOff),
	}
}

// The example of the chapter.
func TestExample(t *testing.T) {
	const want = "sender 7 10 100 20 1000 100 5000 0\nwrite 01ff\ntick 9\n"
	got, e := script.Print(small(), write(1, 255), op(loop.Tick, 9))
	if got != want || e != api.OK {
		t.Errorf("%q, %d", got, e)
	}
}

// P27.1: of any configuration, also of one of which there is no sender.
func TestHead(t *testing.T) {
	for want, c := range heads() {
		if got := script.Head(c); got != want {
			t.Errorf("Head(%+v): %q, not %q", c, got, want)
		}
	}
}

// P27.1
func TestLine(t *testing.T) {
	for want, o := range lines() {
		if got, e := script.Line(o); got != want || e != api.OK {
			t.Errorf("Line(%+v): %q, %d, not %q", o, got, e, want)
		}
	}
}

// P27.1: each byte as two digits, the higher one first.
func TestLineOfAllBytes(t *testing.T) {
	const digits = "0123456789abcdef"
	var all []byte
	want := "write "
	for b := range 256 {
		all = append(all, byte(b))
		want += digits[b/16:b/16+1] + digits[b%16:b%16+1]
	}
	was := slices.Clone(all)
	if got, e := script.Line(write(all...)); got != want || e != api.OK {
		t.Errorf("%q, %d, not %q", got, e, want)
	}
	if !bytes.Equal(all, was) {
		t.Errorf("Line left %v", all)
	}
}

// P27.1: a list without bytes is none, whatever lies behind its length.
func TestLineOfNoBytes(t *testing.T) {
	for _, b := range [][]byte{nil, {}, []byte{1, 2, 3}[:0]} {
		if got, e := script.Line(loop.Op{B: b}); got != "write -" || e != api.OK {
			t.Errorf("%q, %d", got, e)
		}
		if got, e := script.Line(loop.Op{Kind: loop.Data, N: 3, B: b}); got != "data 3" || e != api.OK {
			t.Errorf("%q, %d", got, e)
		}
	}
	if got, e := script.Line(write([]byte{1, 2, 3}[:2]...)); got != "write 0102" || e != api.OK {
		t.Errorf("%q, %d", got, e)
	}
}

// P27.1: a kind that there is not, ahead of what it has; what its line has no place for.
func TestLineErrors(t *testing.T) {
	for _, kind := range []int{-1, -2, 8, 9, 255, 256, math.MinInt, math.MaxInt, 1 << 32} {
		for _, o := range []loop.Op{{Kind: kind}, {Kind: kind, N: 5}, {Kind: kind, B: []byte{1}}, {Kind: kind, N: -5, B: []byte{1}}} {
			mustRefuse(t, o, api.ErrKind)
		}
	}
	for _, n := range []int{1, -1, 7, 1 << 32, math.MinInt, math.MaxInt} {
		mustRefuse(t, loop.Op{Kind: loop.Write, N: n}, api.ErrForm)
		mustRefuse(t, loop.Op{Kind: loop.Write, N: n, B: []byte{1, 2}}, api.ErrForm)
	}
	for kind := 1; kind < 8; kind++ {
		mustRefuse(t, loop.Op{Kind: kind, B: []byte{0}}, api.ErrForm)
		mustRefuse(t, loop.Op{Kind: kind, N: 4, B: make([]byte, 300)}, api.ErrForm)
	}
}

// mustRefuse fails if an operation has a line, alone or behind another one.
func mustRefuse(t *testing.T, o loop.Op, want api.Errno) {
	t.Helper()
	if got, e := script.Line(o); got != "" || e != want {
		t.Errorf("Line(%+v): %q, %d, not %d", o, got, e, want)
	}
	if got, e := script.Print(small(), op(1, 5), o, op(1, 5)); got != "" || e != want {
		t.Errorf("Print of %+v: %q, %d, not %d", o, got, e, want)
	}
}

// P27.1: the head, and all lines, in order.
func TestPrint(t *testing.T) {
	for _, c := range heads() {
		if got, e := script.Print(c); got != script.Head(c)+"\n" || e != api.OK {
			t.Errorf("%q, %d", got, e)
		}
	}
	var ops []loop.Op
	want := smallHead + "\n"
	for line, o := range lines() {
		ops = append(ops, o)
		want += line + "\n"
	}
	was := clones(ops)
	if got, e := script.Print(small(), ops...); got != want || e != api.OK {
		t.Errorf("%q, %d, not %q", got, e, want)
	}
	if !slices.EqualFunc(ops, was, same) {
		t.Errorf("Print left %v of %v", ops, was)
	}
}

// P27.1: the first one's error that has one.
func TestPrintErrors(t *testing.T) {
	kind, form := op(8, 0), op(loop.Write, 1)
	for _, x := range []struct {
		ops  []loop.Op
		want api.Errno
	}{
		{[]loop.Op{kind}, api.ErrKind},
		{[]loop.Op{form}, api.ErrForm},
		{[]loop.Op{kind, form}, api.ErrKind},
		{[]loop.Op{form, kind}, api.ErrForm},
		{[]loop.Op{op(1, 1), form, op(1, 1), kind}, api.ErrForm},
		{[]loop.Op{op(1, 1), op(1, 1), kind, form, form}, api.ErrKind},
	} {
		if got, e := script.Print(small(), x.ops...); got != "" || e != x.want {
			t.Errorf("Print of %+v: %q, %d, not %d", x.ops, got, e, x.want)
		}
	}
}

// P27.1: there may be 4096 operations; one more is refused, whatever else there is to refuse.
func TestPrintTooMany(t *testing.T) {
	ops := make([]loop.Op, 4096)
	for i := range ops {
		ops[i] = op(loop.Back, i)
	}
	got, e := script.Print(small(), ops...)
	if e != api.OK || strings.Count(got, "\n") != 4097 || !strings.HasSuffix(got, "\nback 4094\nback 4095\n") {
		t.Errorf("%d, of %d bytes", e, len(got))
	}
	ops[4095].B = []byte{1}
	if got, e := script.Print(small(), ops...); got != "" || e != api.ErrForm {
		t.Errorf("%d, of %d bytes", e, len(got))
	}
	for _, more := range []loop.Op{op(1, 0), op(9, 0), op(0, 1)} {
		for _, l := range [][]loop.Op{append(clones(ops), more), append([]loop.Op{more}, ops...), make([]loop.Op, 4097), make([]loop.Op, 100000)} {
			if got, e := script.Print(small(), l...); got != "" || e != api.ErrLong {
				t.Errorf("%d, of %d bytes", e, len(got))
			}
		}
	}
}
