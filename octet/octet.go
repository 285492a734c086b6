// Package octet writes numbers as bytes, the highest one first, and reads them back.
package octet

import (
	"undertow/api"
)

// Writer is bytes that were written.
type Writer struct {
	list
}

// One writes a byte.
func (w *Writer) One(b byte) {
	w.All(b)
}

// Two writes a number of two bytes.
func (w *Writer) Two(n uint16) {
	w.All(byte(n>>8), byte(n))
}

// Four writes a number of four bytes.
func (w *Writer) Four(n uint32) {
	w.All(byte(n>>24), byte(n>>16), byte(n>>8), byte(n))
}

// All writes bytes.
func (w *Writer) All(b ...byte) {
	if w != nil {
		w.put(b)
	}
}

// Len is how many bytes there are.
func (w *Writer) Len() int {
	if w == nil {
		return 0
	}
	return w.size
}

// Bytes is all of them.
func (w *Writer) Bytes() []byte {
	if w == nil {
		return nil
	}
	return w.all()
}

// Reader stands in front of a byte.
type Reader struct {
	ahead []byte
}

// NewReader stands in front of the first one.
func NewReader(b []byte) *Reader {
	return &Reader{ahead: fresh(b)}
}

// One is the next byte.
func (r *Reader) One() (byte, api.Errno) {
	b, e := r.next(1)
	return byte(number(b)), e
}

// Two is the number in the next two bytes.
func (r *Reader) Two() (uint16, api.Errno) {
	b, e := r.next(2)
	return uint16(number(b)), e
}

// Four is the number in the next four bytes.
func (r *Reader) Four() (uint32, api.Errno) {
	b, e := r.next(4)
	return number(b), e
}

// Take is the next bytes.
func (r *Reader) Take(n int) ([]byte, api.Errno) {
	b, e := r.next(n)
	return fresh(b), e
}

// Left is how many bytes are ahead.
func (r *Reader) Left() int {
	if r == nil {
		return 0
	}
	return len(r.ahead)
}

// Rest is the bytes that are ahead.
func (r *Reader) Rest() []byte {
	if r == nil {
		return nil
	}
	return fresh(r.ahead)
}

// next goes past n bytes, which stay the reader's own.
func (r *Reader) next(n int) ([]byte, api.Errno) {
	if r == nil {
		return nil, api.ErrNil
	}
	if n < 0 {
		return nil, api.ErrArg
	}
	if n > len(r.ahead) {
		return nil, api.ErrShort
	}
	b := r.ahead[:n]
	r.ahead = r.ahead[n:]
	return b, api.OK
}

// number is what at most four bytes say, the highest one first; of none it is 0.
func number(b []byte) uint32 {
	var n uint32
	for _, low := range b {
		n = n<<8 | uint32(low)
	}
	return n
}

// fresh is the same bytes in memory of their own.
func fresh(b []byte) []byte {
	return append([]byte(nil), b...)
}
