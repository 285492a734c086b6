package script

import (
	"iter"
	"math"
	"strconv"
	"strings"

	"undertow/api"
	"undertow/loop"
)

// config is the configuration of a head's numbers, and whether the first one may be.
func config(n [fields]int) (api.Config, bool) {
	if n[0] < 0 || n[0] > math.MaxUint32 {
		return api.Config{}, false
	}
	return api.Config{
		First: uint32(n[0]), Mss: n[1], Buffer: n[2], Start: n[3], Most: n[4], MinRto: n[5], MaxRto: n[6], Floor: n[7],
	}, true
}

// ParseHead is the configuration that a line says.
func ParseHead(line string) (api.Config, bool) {
	// The last part is all that is left, so that a line of many blanks is not cut up whole: what has a blank in it is no number.
	parts := strings.SplitN(line, blank, fields+1)
	if len(parts) != fields+1 || parts[0] != headWord {
		return api.Config{}, false
	}
	var all [fields]int
	for i, part := range parts[1:] {
		n, ok := number(part)
		if !ok {
			return api.Config{}, false
		}
		all[i] = n
	}
	return config(all)
}

// number is the number that a text says.
func number(text string) (int, bool) {
	n, e := strconv.Atoi(text)
	// What is read is held against how it is written, as Atoi takes noughts and + ahead, too.
	if e != nil || strconv.Itoa(n) != text {
		return 0, false
	}
	return n, true
}

// ParseLine is the operation that a line says.
func ParseLine(line string) (loop.Op, bool) {
	word, says, _ := strings.Cut(line, blank)
	kind, ok := kindOf(word)
	if !ok {
		return loop.Op{}, false
	}
	if kind == loop.Write {
		b, ok := textBytes(says)
		return loop.Op{B: b}, ok
	}
	n, ok := number(says)
	if !ok {
		return loop.Op{}, false
	}
	return loop.Op{Kind: kind, N: n}, true
}

// kindOf is the kind of a line's word.
func kindOf(word string) (int, bool) {
	for kind, one := range words {
		if one == word {
			return kind, true
		}
	}
	return 0, false
}

// textBytes is the bytes that a write tells.
func textBytes(text string) ([]byte, bool) {
	if text == noBytes {
		return nil, true
	}
	if text == "" || len(text)%2 != 0 {
		return nil, false
	}
	p := make([]byte, len(text)/2)
	for at, digit := range text {
		n := strings.IndexRune(digits, digit)
		if n < 0 {
			return nil, false
		}
		p[at/2] = p[at/2]*byte(base) + byte(n)
	}
	return p, true
}

// Parse is what a text says.
func Parse(text string) (api.Config, []loop.Op, int, api.Errno) {
	if !strings.HasSuffix(text, end) {
		return api.Config{}, nil, 0, api.ErrText
	}
	if strings.Count(text, end) > 1+api.MaxLines {
		return api.Config{}, nil, 0, api.ErrLong
	}
	var c api.Config
	var ops []loop.Op
	for n, line := range lines(text) {
		var ok bool
		if n == 1 {
			c, ok = ParseHead(line)
		} else {
			var o loop.Op
			o, ok = ParseLine(line)
			ops = append(ops, o)
		}
		if !ok {
			return api.Config{}, nil, n, api.ErrLine
		}
	}
	return c, ops, 0, api.OK
}

// lines goes through a text's lines, from 1 on.
func lines(text string) iter.Seq2[int, string] {
	return func(yield func(int, string) bool) {
		n, from := 1, 0
		for at, char := range text {
			if char != '\n' {
				continue
			}
			if !yield(n, text[from:at]) {
				return
			}
			n, from = n+1, at+1
		}
	}
}
