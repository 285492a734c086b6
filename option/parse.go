package option

import (
	"undertow/api"
	"undertow/octet"
)

// Parse is what bytes say.
func Parse(b []byte) (api.Options, api.Errno) {
	if len(b) > api.MaxOptions {
		return api.Options{}, api.ErrLong
	}
	var o api.Options
	r := octet.NewReader(b)
options:
	for r.Left() > 0 {
		kind, _ := r.One()
		switch kind {
		case kindEnd:
			break options
		case kindNothing:
			continue options
		}
		says, e := take(r, kind)
		if e != api.OK {
			return api.Options{}, e
		}
		set(&o, kind, says)
	}
	return o, api.OK
}

// take is what an option says, from behind its kind on.
func take(r *octet.Reader, kind byte) ([]byte, api.Errno) {
	size, e := r.One()
	if e != api.OK {
		return nil, e
	}
	if size < headSize {
		return nil, api.ErrForm
	}
	says, e := r.Take(int(size) - headSize)
	if e != api.OK {
		return nil, e
	}
	if !fits(kind, int(size)) {
		return nil, api.ErrForm
	}
	return says, api.OK
}

// fits tells whether an option of a kind may have so many bytes.
func fits(kind byte, size int) bool {
	switch kind {
	case kindMss:
		return size == mssSize
	case kindScale:
		return size == scaleSize
	case kindPermit:
		return size == permitSize
	case kindBlocks:
		n := (size - headSize) / blockSize
		return 1 <= n && n <= api.MaxBlocks && size == headSize+n*blockSize
	case kindTs:
		return size == tsSize
	}
	return true
}

// set takes over what an option says, whose bytes are as many as it needs. What an earlier one of its kind said is gone then, whole.
func set(o *api.Options, kind byte, says []byte) {
	r := octet.NewReader(says)
	switch kind {
	case kindMss:
		n, _ := r.Two()
		o.Mss = int(n)
	case kindScale:
		n, _ := r.One()
		o.HasScale, o.Scale = true, min(int(n), maxScale)
	case kindPermit:
		o.Permit = true
	case kindBlocks:
		o.Blocks = blocks(r)
	case kindTs:
		o.Ts = true
		o.Val, _ = r.Four()
		o.Ecr, _ = r.Four()
	}
}

// blocks is the blocks that are ahead.
func blocks(r *octet.Reader) []api.Block {
	var l []api.Block
	for r.Left() > 0 {
		left, _ := r.Four()
		right, _ := r.Four()
		l = append(l, api.Block{Left: left, Right: right})
	}
	return l
}
