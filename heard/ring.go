package heard

// ring has bytes by their offsets, of as many side by side as it is long. A byte stands where its offset, divided by the ring's length, leaves it, so that none moves as others go.
type ring []byte

// lay sets bytes from an offset on.
func (r ring) lay(from int, p []byte) {
	for i := range len(p) {
		r[(from+i)%len(r)] = p[i]
	}
}

// move puts as many bytes as are asked for, from an offset on, behind others.
func (r ring) move(behind []byte, from, n int) []byte {
	for i := range n {
		behind = append(behind, r[(from+i)%len(r)])
	}
	return behind
}
