package script_test

import (
	"encoding/hex"
	"math"
	"math/big"
	"math/rand"
	"regexp"
	"slices"
	"strings"
	"testing"

	"undertow/api"
	"undertow/loop"
	"undertow/script"
)

// The forms, in words as near to the chapter's as may be; whether a number is one of 64 bits they do not say.
var (
	headForm  = regexp.MustCompile(`\Asender( (0|-?[1-9][0-9]*)){8}\z`)
	writeForm = regexp.MustCompile(`\Awrite (-|([0-9a-f][0-9a-f])+)\z`)
	otherForm = regexp.MustCompile(`\A(tick|data|dropdata|copydata|back|dropback|copyback) (0|-?[1-9][0-9]*)\z`)
)

// within tells whether a number lies within two others.
func within(text string, least, most int64) bool {
	n, ok := new(big.Int).SetString(text, 10)
	return ok && n.Cmp(big.NewInt(least)) >= 0 && n.Cmp(big.NewInt(most)) <= 0
}

// isHead is whether a line is a head.
func isHead(line string) bool {
	if !headForm.MatchString(line) {
		return false
	}
	n := strings.Split(line, " ")[1:]
	return within(n[0], 0, math.MaxUint32) && !slices.ContainsFunc(n, func(text string) bool { return !within(text, math.MinInt64, math.MaxInt64) })
}

// isLine is whether a text is a line.
func isLine(line string) bool {
	if otherForm.MatchString(line) {
		return within(strings.Split(line, " ")[1], math.MinInt64, math.MaxInt64)
	}
	return writeForm.MatchString(line)
}

// reads is what Parse must answer beside what the text says.
func reads(text string) (int, api.Errno) {
	if !strings.HasSuffix(text, "\n") {
		return 0, api.ErrText
	}
	l := strings.Split(strings.TrimSuffix(text, "\n"), "\n")
	if len(l) > 4097 {
		return 0, api.ErrLong
	}
	for i, line := range l {
		if i == 0 && !isHead(line) || i > 0 && !isLine(line) {
			return i + 1, api.ErrLine
		}
	}
	return 0, api.OK
}

// mustBeLikeTheForms fails if a text is read where it may not be, or the other way round, or if what is read is printed in another way (P27.4).
func mustBeLikeTheForms(t *testing.T, text string) {
	t.Helper()
	c, ok := script.ParseHead(text)
	if ok != isHead(text) || ok && script.Head(c) != text || !ok && c != (api.Config{}) {
		t.Errorf("ParseHead(%q): %+v, %v", text, c, ok)
	}
	o, ok := script.ParseLine(text)
	if line, e := script.Line(o); ok != isLine(text) || ok && (line != text || e != api.OK) || !ok && !same(o, loop.Op{}) {
		t.Errorf("ParseLine(%q): %+v, %v", text, o, ok)
	}
	c, l, n, e := script.Parse(text)
	if line, want := reads(text); n != line || e != want || e != api.OK && (c != (api.Config{}) || len(l) != 0) {
		t.Errorf("Parse(%.200q): %d, %d, not %d, %d", text, n, e, line, want)
	} else if again, wrong := script.Print(c, l...); e == api.OK && (again != text || wrong != api.OK) {
		t.Errorf("Parse(%.200q) is printed as %.200q, %d", text, again, wrong)
	}
}

// P27.2, P27.3, P27.4: what is near to what can be read: with a byte more, one less, or another one, at each place.
func TestNearby(t *testing.T) {
	l := []string{"sender 4294967295 10 -1 0 9223372036854775807 -9223372036854775808 5 60", "write -", "write 0af9", "tick -10", "tick 0", "data 9223372036854775807", "dropback -9223372036854775808", "copydata 3", smallHead + "\nwrite 01\ntick 9\n"}
	for _, text := range l {
		mustBeLikeTheForms(t, text)
		for at := 0; at <= len(text); at++ {
			if at < len(text) {
				mustBeLikeTheForms(t, text[:at]+text[at+1:])
			}
			for b := range 256 {
				one := string([]byte{byte(b)})
				mustBeLikeTheForms(t, text[:at]+one+text[at:])
				if at < len(text) {
					mustBeLikeTheForms(t, text[:at]+one+text[at+1:])
				}
			}
		}
	}
}

// P1, P27.2, P27.3, P27.4: texts made of what lines are made of, in any order.
func TestAnyText(t *testing.T) {
	parts := []string{"sender", "write", "tick", "data", "dropdata", "copydata", "back", "dropback", "copyback", " ", " ", " ", "\n", "\n", "-", "0", "1", "7f", "00", "4294967295", "9223372036854775807", "x", "\r", "\x00", "\xff", "é", smallHead + "\n", "tick 5\n", "write -\n"}
	rnd := rand.New(rand.NewSource(27))
	for range 60000 {
		text := ""
		for range rnd.Intn(12) {
			text += parts[rnd.Intn(len(parts))]
		}
		mustBeLikeTheForms(t, text)
	}
}

// anyNumber is a number, of any size.
func anyNumber(rnd *rand.Rand) int {
	switch rnd.Intn(6) {
	case 0:
		return []int{0, 1, -1, math.MinInt, math.MaxInt, 9, 10, -9, -10, 99, 100}[rnd.Intn(11)]
	case 1:
		return int(rnd.Uint64())
	}
	return int(rnd.Uint64()) >> rnd.Intn(64)
}

// anyConfig is a configuration, also one of which there is no sender.
func anyConfig(rnd *rand.Rand) api.Config {
	next := func() int { return anyNumber(rnd) }
	return api.Config{First: uint32(anyNumber(rnd)), Mss: next(), Buffer: next(), Start: next(), Most: next(), MinRto: next(), MaxRto: next(), Floor: next()}
}

// anyOp is an operation that has a line.
func anyOp(rnd *rand.Rand) loop.Op {
	kind := rnd.Intn(8)
	if kind != loop.Write {
		return op(kind, anyNumber(rnd))
	}
	p := make([]byte, rnd.Intn(2)*rnd.Intn(40))
	rnd.Read(p)
	return write(p...)
}

// P27.4: there and back, of operations and of a text that was made without Print.
func TestThereAndBack(t *testing.T) {
	rnd := rand.New(rand.NewSource(4))
	for range 3000 {
		c := anyConfig(rnd)
		ops := make([]loop.Op, rnd.Intn(20))
		for i := range ops {
			ops[i] = anyOp(rnd)
		}
		text, e := script.Print(c, ops...)
		if e != api.OK {
			t.Fatalf("Print of %+v, %+v: %d", c, ops, e)
		}
		mustRead(t, text, c, ops...)
		if want := told(c, ops); text != want {
			t.Fatalf("%q, not %q", text, want)
		}
	}
}

// told is a script as the chapter has it, by means of its own.
func told(c api.Config, ops []loop.Op) string {
	words := strings.Fields("write tick data dropdata copydata back dropback copyback")
	text := "sender"
	for _, n := range []int64{int64(c.First), int64(c.Mss), int64(c.Buffer), int64(c.Start), int64(c.Most), int64(c.MinRto), int64(c.MaxRto), int64(c.Floor)} {
		text += " " + big.NewInt(n).String()
	}
	text += "\n"
	for _, o := range ops {
		says := hex.EncodeToString(o.B)
		if says == "" {
			says = "-"
		}
		if o.Kind != 0 {
			says = big.NewInt(int64(o.N)).String()
		}
		text += words[o.Kind] + " " + says + "\n"
	}
	return text
}

// P27.5: operations that are not the same have unlike lines, none of which has a line feed in it.
func TestUnlike(t *testing.T) {
	rnd := rand.New(rand.NewSource(5))
	var l []loop.Op
	for kind := 1; kind < 8; kind++ {
		for n := -300; n <= 300; n++ {
			l = append(l, op(kind, n))
		}
	}
	l = append(l, write())
	for a := range 256 {
		l = append(l, write(byte(a)))
		for b := range 256 {
			l = append(l, write(byte(a), byte(b)))
		}
	}
	for range 3000 {
		l = append(l, anyOp(rnd))
	}
	had := map[string]loop.Op{}
	for _, o := range l {
		line, e := script.Line(o)
		if e != api.OK || strings.Contains(line, "\n") {
			t.Fatalf("Line(%+v): %q, %d", o, line, e)
		}
		if other, ok := had[line]; ok && !same(o, other) {
			t.Fatalf("%+v and %+v are both %q", o, other, line)
		}
		had[line] = o
	}
	if len(had) < 7*601+1+256+65536 {
		t.Errorf("only %d lines", len(had))
	}
}

// P27.3: what is read is done to a loop: example 10 of the whole, and a loss that is mended.
func TestDone(t *testing.T) {
	for text, want := range map[string][]api.Errno{
		"sender 0 10 100 20 1000 100 5000 0\ntick 5\ndata 0\n": {api.OK, api.ErrNone},
		"sender 7 10 100 40 1000 1000 10000 0\nwrite " + strings.Repeat("0a", 30) + "\ndropdata 0\ntick 50\ndata 0\ndata 0\nback 0\nback 0\ntick 200\ndata 0\nback 0\ncopyback 5\ntick -1\nwrite -\n": append(make([]api.Errno, 10), api.ErrNone, api.ErrRange, api.OK),
	} {
		c, ops, _, e := script.Parse(text)
		l, wrong := loop.New(c)
		if e != api.OK || wrong != api.OK || len(ops) != len(want) {
			t.Fatalf("%q: %d, %d, %d operations", text, e, wrong, len(ops))
		}
		for i, o := range ops {
			if got := l.Do(o); got != want[i] {
				t.Errorf("%q: operation %d: %d, not %d", text, i, got, want[i])
			}
		}
		if s := l.State(); s.Una != s.End {
			t.Errorf("%q: %+v", text, s)
		}
	}
}
