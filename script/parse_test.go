package script_test

import (
	"slices"
	"strconv"
	"strings"
	"testing"

	"undertow/api"
	"undertow/loop"
	"undertow/script"
)

// P27.2
func TestParseHead(t *testing.T) {
	for line, want := range heads() {
		if got, ok := script.ParseHead(line); got != want || !ok {
			t.Errorf("ParseHead(%q): %+v, %v, not %+v", line, got, ok, want)
		}
	}
}

// notNumbers is what is no number, or none of 64 bits.
func notNumbers() []string {
	return []string{
		"", "-", "+", "+5", "-0", "--5", "-+5", "00", "05", "-05", "000", "5-", "1-2", "5.", "5.0", ".5", "1e3", "0x5", "0b1", "0o7", "1_000", "1,000",
		"a", "five", "5a", "\t5", "5\t", "5\r", "5\n", "\n5", "\x005", "5\x00", "٣", "５", "é", "\xff", "5\xff", "−5", "Inf", "NaN", "nil",
		"9223372036854775808", "-9223372036854775809", "9223372036854775810", "18446744073709551615", "18446744073709551616", "18446744073709551621",
		"10000000000000000000", "-10000000000000000000", "340282366920938463463374607431768211456", strings.Repeat("9", 5000), "-" + strings.Repeat("1", 5000),
		strings.Repeat("0", 30) + "5",
	}
}

// P27.2: another number in any place; a First that is no number of 32 bits.
func TestParseHeadNumbers(t *testing.T) {
	for at := range 8 {
		parts := strings.Split("1 2 3 4 5 6 7 8", " ")
		for _, bad := range notNumbers() {
			parts[at] = bad
			mustBeNoHead(t, "sender "+strings.Join(parts, " "))
		}
	}
	for _, first := range []string{"-1", "-4294967295", "4294967296", "4294967297", "8589934591", "9223372036854775807", "-9223372036854775808"} {
		mustBeNoHead(t, "sender "+first+" 2 3 4 5 6 7 8")
	}
}

// mustBeNoHead fails if a line is a head.
func mustBeNoHead(t *testing.T, line string) {
	t.Helper()
	if c, ok := script.ParseHead(line); c != (api.Config{}) || ok {
		t.Errorf("ParseHead(%q): %+v, %v", line, c, ok)
	}
}

// P27.2: just in that form.
func TestParseHeadForm(t *testing.T) {
	const rest = " 1 2 3 4 5 6 7 8"
	for _, line := range []string{
		"", " ", "sender", "sender ", "Sender" + rest, "SENDER" + rest, "sende" + rest, "senders" + rest, "sender1 2 3 4 5 6 7 8", rest, rest[1:], "head" + rest, "tick" + rest,
		" sender" + rest, "sender " + rest, "sender" + rest + " ", "sender" + rest + "  ", "sender 1 2 3 4 5 6 7", "sender 1 2 3 4 5 6 7 ", "sender" + rest + " 9", "sender" + rest + " 9 10",
		"sender\t1 2 3 4 5 6 7 8", "sender 1\t2 3 4 5 6 7 8", "sender 1  2 3 4 5 6 7 8", "sender 1 2 3 4  5 6 7 8", "sender 1 2 3 4 5 6 7  8", "sender 1,2,3,4,5,6,7,8",
		"sender" + rest + "\n", "sender" + rest + "\r", "sender" + rest + "\r\n", "\nsender" + rest, "sender" + rest + "\x00", "\ufeffsender" + rest, "sender\u00a01 2 3 4 5 6 7 8",
		"sender" + rest + "\nsender" + rest, "sender - - - - - - - -", strings.Repeat(" ", 8), strings.Repeat(" ", 1<<20), "sender" + strings.Repeat(" 1", 1<<18),
	} {
		mustBeNoHead(t, line)
	}
}

// mustSay fails if a line says something else.
func mustSay(t *testing.T, line string, want loop.Op) {
	t.Helper()
	if got, ok := script.ParseLine(line); !same(got, want) || !ok {
		t.Errorf("ParseLine(%q): %+v, %v, not %+v", line, got, ok, want)
	}
}

// mustBeNoLine fails if a text is a line.
func mustBeNoLine(t *testing.T, line string) {
	t.Helper()
	if o, ok := script.ParseLine(line); o.Kind != 0 || o.N != 0 || len(o.B) != 0 || ok {
		t.Errorf("ParseLine(%q): %+v, %v", line, o, ok)
	}
}

// P27.2
func TestParseLine(t *testing.T) {
	for line, want := range lines() {
		mustSay(t, line, want)
	}
}

// P27.2: of each kind that has a number.
func TestParseLineNumbers(t *testing.T) {
	for i, word := range []string{"tick", "data", "dropdata", "copydata", "back", "dropback", "copyback"} {
		for _, n := range []int{0, 1, -1, 9, 10, -10, 4095, 1 << 40, -1 << 50} {
			mustSay(t, word+" "+strconv.Itoa(n), op(i+1, n))
		}
		for _, bad := range append(notNumbers(), " 5", "5 ", " ", "5 5", "5  5", "01ff", "ff", "5\n6") {
			mustBeNoLine(t, word+" "+bad)
		}
		for _, bad := range []string{"", "5", "\t5", "-5", "\n5", "=5", ":5"} {
			mustBeNoLine(t, word+bad)
		}
		for _, bad := range []string{strings.ToUpper(word), strings.ToUpper(word[:1]) + word[1:], word + "s", word[1:], " " + word, "\n" + word, "\xff" + word, word + "\x00", "write " + word} {
			mustBeNoLine(t, bad+" 5")
		}
	}
}

// P27.2: each byte is two digits, or there are none, which is told.
func TestParseLineWrites(t *testing.T) {
	for b := range 256 {
		text := strconv.FormatInt(int64(b), 16)
		if b < 16 {
			text = "0" + text
		}
		mustSay(t, "write "+text, write(byte(b)))
		mustSay(t, "write 7f"+text+"80", write(127, byte(b), 128))
	}
	for _, bad := range []string{
		"", " ", "0", "f", "012", "0001f", "FF", "0F", "F0", "aB", "0g", "g0", "0x", "0x01", "--", "---", "-01", "01-", "- ", " -", "-0", "+1", "01 ", " 01", "01 02", "0 1", "01\n", "\n01", "01\r", "\r",
		"\n", "-\n", "-\r", "01\x00", "\x0001", "\x00\x00", "é", "0é0", "é0", "00é", "\xff", "\xff\xff", "0\xff", "\xff0", "\xc3\xa9", "\ufffd0", "０１", "٣", "/0", ":0", "`0", "@0", "0/", "0:", "0`", "0@", "0G", "0A", "ag", "zz", "\xe2\x82", strings.Repeat("0", 4095),
	} {
		mustBeNoLine(t, "write "+bad)
	}
	for _, bad := range []string{"", "write", "write-", "write01", "Write 01", "WRITE -", "writes -", " write -", "write\t-", "write\n-", "writ -", "w -", "-", "01", " -", " ", "0 -", "sender 01", "read 01", smallHead, "op 1 10", "end"} {
		mustBeNoLine(t, bad)
	}
}

// P27.2: also of many bytes.
func TestParseLineOfMany(t *testing.T) {
	mustSay(t, "write "+strings.Repeat("0a", 1<<20), write(slices.Repeat([]byte{10}, 1<<20)...))
	mustBeNoLine(t, "write "+strings.Repeat("0a", 1<<20)+"0")
	mustBeNoLine(t, "write "+strings.Repeat("0a", 1<<20)+"0z")
	mustBeNoLine(t, strings.Repeat(" ", 1<<20))
}

// mustRead fails if a text says something else.
func mustRead(t *testing.T, text string, c api.Config, ops ...loop.Op) {
	t.Helper()
	if got, l, n, e := script.Parse(text); got != c || !slices.EqualFunc(l, ops, same) || n != 0 || e != api.OK {
		t.Errorf("Parse(%.200q): %+v, %+v, %d, %d, not %+v, %+v", text, got, l, n, e, c, ops)
	}
}

// mustFail fails if a text is none that can be read, or for another cause.
func mustFail(t *testing.T, text string, line int, want api.Errno) {
	t.Helper()
	if c, l, n, e := script.Parse(text); c != (api.Config{}) || len(l) != 0 || n != line || e != want {
		t.Errorf("Parse(%.200q): %+v, %+v, %d, %d, not %d, %d", text, c, l, n, e, line, want)
	}
}

// P27.3
func TestParse(t *testing.T) {
	for head, c := range heads() {
		mustRead(t, head+"\n", c)
		mustRead(t, head+"\nwrite -\n", c, write())
	}
	mustRead(t, smallHead+"\nwrite 01ff\ntick 9\n", small(), write(1, 255), op(loop.Tick, 9))
	text := smallHead + "\n"
	var ops []loop.Op
	for line, o := range lines() {
		text += line + "\n"
		ops = append(ops, o)
	}
	mustRead(t, text, small(), ops...)
}

// P27.3: a text that does not end as a text must, whatever else is in it.
func TestParseNoText(t *testing.T) {
	many := strings.Repeat("x\n", 5000)
	for _, text := range []string{"", " ", "x", smallHead, smallHead + "\ntick 9", smallHead + "\n ", smallHead + "\n\r", smallHead + "\n\x00", "x\ny", many + "x", many + smallHead, "\n\n\n ", "\n\u0085", "\u2028"} {
		mustFail(t, text, 0, api.ErrText)
	}
}

// P27.3: the first line that is none.
func TestParseLineNumber(t *testing.T) {
	for _, text := range []string{"\n", "\n\n", " \n", "x\n", "tick 9\n", smallHead + "\r\n", " " + smallHead + "\n", "\n" + smallHead + "\n", "x\ny\n", "sender 7\ntick 9\n", smallHead + " \ntick x\n", "\xff\n", "\xe2\x82\n" + smallHead + "\n"} {
		mustFail(t, text, 1, api.ErrLine)
	}
	for _, text := range []string{"\n", "\n\n", "x\n", "tick\n", "tick 9\r\n", "tick 9 \n", smallHead + "\n", "tick 09\nx\n", "\ntick 9\n", "write 0\ntick 9\n", "\r\n", "# tick 9\n", "\xff\ntick 9\n", "\xe2\x82\ntick 9\n", "é\n"} {
		mustFail(t, smallHead+"\n"+text, 2, api.ErrLine)
		mustFail(t, smallHead+"\ntick 9\n"+text, 3, api.ErrLine)
		mustFail(t, smallHead+"\n"+strings.Repeat("write 01ff\n", 98)+text, 100, api.ErrLine)
	}
}

// P27.3: there may be 4096 lines behind the head; that is looked at ahead of what they say.
func TestParseTooLong(t *testing.T) {
	most := strings.Repeat("data 3\n", 4095)
	ops := slices.Repeat([]loop.Op{op(loop.Data, 3)}, 4095)
	mustRead(t, smallHead+"\n"+most, small(), ops...)
	mustRead(t, smallHead+"\n"+most+"back 4\n", small(), append(ops, op(loop.Back, 4))...)
	mustFail(t, smallHead+"\n"+most+"back\n", 4097, api.ErrLine)
	mustFail(t, smallHead+"\n"+most+"\n", 4097, api.ErrLine)
	mustFail(t, "x\n"+most+"x\n", 1, api.ErrLine)
	mustFail(t, strings.Repeat("\n", 4097), 1, api.ErrLine)
	for _, text := range []string{
		smallHead + "\n" + most + "data 3\ndata 3\n", smallHead + "\n" + most + "x\nx\n", smallHead + "\nx\n" + most + "data 3\n", "x\n" + most + "data 3\ndata 3\n", smallHead + "\n" + most + "\n\n",
		smallHead + "\n" + most + most, strings.Repeat("\n", 4098), strings.Repeat("\n", 1<<20), strings.Repeat("data 3\n", 4098),
	} {
		mustFail(t, text, 0, api.ErrLong)
		mustFail(t, text+"x", 0, api.ErrText)
	}
	mustFail(t, smallHead+"\n"+most+"data 3\ndata 3", 0, api.ErrText)
}

// Rule 7 of the language: what is read stands in memory of its own.
func TestOwnMemory(t *testing.T) {
	const text = smallHead + "\nwrite 0102\nwrite 0304\ntick 1\n"
	_, l, _, _ := script.Parse(text)
	for _, o := range l {
		clear(append(o.B, 9, 9, 9, 9))
		clear(o.B)
	}
	clear(append(l, loop.Op{}))
	clear(l)
	mustRead(t, text, small(), write(1, 2), write(3, 4), op(1, 1))
	_, l, _, _ = script.Parse(text)
	clear(append(l[0].B, 9, 9, 9, 9))
	if !same(l[1], write(3, 4)) {
		t.Errorf("%+v", l[1])
	}
}
