package option

import (
	"undertow/api"
	"undertow/octet"
)

// Size is how many bytes options have.
func Size(o api.Options) int {
	// So many blocks have no number of bytes that one byte could tell.
	if len(o.Blocks) > api.MaxBlocks {
		return 0
	}
	return write(o).Len()
}

// Encode is the bytes of options.
func Encode(o api.Options) ([]byte, api.Errno) {
	if e := Check(o); e != api.OK {
		return nil, e
	}
	return write(o).Bytes(), api.OK
}

// write writes what options say; of numbers beyond their limits just the length is of use.
func write(o api.Options) *octet.Writer {
	w := new(octet.Writer)
	for _, put := range parts(o) {
		put(w)
	}
	for w.Len()%4 != 0 {
		w.One(kindEnd)
	}
	return w
}

// parts writes each option that is said, in the order in which they stand.
func parts(o api.Options) [5]func(w *octet.Writer) {
	return [5]func(w *octet.Writer){
		func(w *octet.Writer) {
			if o.Mss != 0 {
				w.All(kindMss, mssSize)
				w.Two(uint16(o.Mss))
			}
		},
		func(w *octet.Writer) {
			if o.Permit {
				w.All(kindPermit, permitSize)
			}
		},
		func(w *octet.Writer) {
			if o.Ts {
				w.All(kindTs, tsSize)
				w.Four(o.Val)
				w.Four(o.Ecr)
			}
		},
		func(w *octet.Writer) {
			if o.HasScale {
				w.All(kindScale, scaleSize, byte(o.Scale))
			}
		},
		func(w *octet.Writer) {
			if n := len(o.Blocks); n > 0 {
				w.All(kindBlocks, byte(headSize+n*blockSize))
			}
			for _, b := range o.Blocks {
				w.Four(b.Left)
				w.Four(b.Right)
			}
		},
	}
}
