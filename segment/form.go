package segment

import (
	"undertow/api"
	"undertow/octet"
	"undertow/option"
	"undertow/sum"
)

const (
	headSize = 8 // the bytes ahead of the options
	maxSize  = headSize + api.MaxOptions + api.MaxMss
	unit     = 4 // how many times so many bytes the options have is what a segment tells
)

// Encode is a segment's bytes.
func Encode(s api.Segment) ([]byte, api.Errno) {
	if e := Check(s); e != api.OK {
		return nil, e
	}
	opt, _ := option.Encode(s.Opt) // Check has had a look at them.
	return lay(s, opt, sum.Check(lay(s, opt, 0))), api.OK
}

// lay is a segment's bytes with a check.
func lay(s api.Segment, opt []byte, check uint16) []byte {
	var w octet.Writer
	w.All(byte(s.Kind), byte(len(opt)/unit))
	w.Two(check)
	w.Four(s.Num)
	w.All(opt...)
	w.All(s.Body...)
	return w.Bytes()
}

// Decode is the segment that bytes say.
func Decode(b []byte) (api.Segment, api.Errno) {
	if e := whole(b); e != api.OK {
		return api.Segment{}, e
	}
	var s api.Segment
	if e := first(parts(octet.NewReader(b), &s)); e != api.OK {
		return api.Segment{}, e
	}
	return s, api.OK
}

// whole tells whether bytes may be a segment's, before a look at what they say.
func whole(b []byte) api.Errno {
	switch {
	case len(b) < headSize:
		return api.ErrShort
	case len(b) > maxSize:
		return api.ErrLong
	case !sum.Fine(b):
		return api.ErrSum
	}
	return api.OK
}

// parts takes a segment from bytes that are whole, so the head does not lack.
func parts(r *octet.Reader, s *api.Segment) looks {
	size := 0
	return looks{
		func() api.Errno {
			kind, _ := r.One()
			s.Kind = int(kind)
			return when(!known(s.Kind), api.ErrKind)
		},
		func() api.Errno {
			units, _ := r.One()
			size = int(units) * unit
			r.Two() // The check, of which nothing is left to tell.
			s.Num, _ = r.Four()
			return when(size > api.MaxOptions, api.ErrForm)
		},
		func() api.Errno {
			says, e := r.Take(size)
			if e != api.OK {
				return e
			}
			s.Opt, e = option.Parse(says)
			return e
		},
		func() api.Errno {
			s.Body = r.Rest()
			return Check(*s)
		},
	}
}
