package sha

import "math/bits"

// mixNarrow takes a block of SHA-256: sixteen words of 32 bits, 64 rounds.
func (s *State) mixNarrow() {
	var w [64]uint32
	for i := range 16 {
		w[i] = uint32(get(s.tail[4*i : 4*i+4]))
	}
	for i := 16; i < len(w); i++ {
		x, y := w[i-15], w[i-2]
		w[i] = w[i-16] + w[i-7] +
			(turn32(x, 7) ^ turn32(x, 18) ^ x>>3) +
			(turn32(y, 17) ^ turn32(y, 19) ^ y>>10)
	}
	var v [8]uint32
	for i, word := range s.chain {
		v[i] = uint32(word)
	}
	a, b, c, d, e, f, g, h := v[0], v[1], v[2], v[3], v[4], v[5], v[6], v[7]
	for i, word := range w {
		t := h + word + uint32(cubeRoots[i]>>32) +
			(turn32(e, 6) ^ turn32(e, 11) ^ turn32(e, 25)) +
			(e&f ^ ^e&g)
		u := (turn32(a, 2) ^ turn32(a, 13) ^ turn32(a, 22)) +
			(a&b ^ a&c ^ b&c)
		a, b, c, d, e, f, g, h = t+u, a, b, c, d+t, e, f, g
	}
	for i, word := range [8]uint32{a, b, c, d, e, f, g, h} {
		s.chain[i] = uint64(v[i] + word)
	}
}

// mixWide takes a block of SHA-384 or SHA-512: sixteen words of 64 bits, 80 rounds.
func (s *State) mixWide() {
	var w [80]uint64
	for i := range 16 {
		w[i] = get(s.tail[8*i : 8*i+8])
	}
	for i := 16; i < len(w); i++ {
		x, y := w[i-15], w[i-2]
		w[i] = w[i-16] + w[i-7] +
			(turn64(x, 1) ^ turn64(x, 8) ^ x>>7) +
			(turn64(y, 19) ^ turn64(y, 61) ^ y>>6)
	}
	v := s.chain
	a, b, c, d, e, f, g, h := v[0], v[1], v[2], v[3], v[4], v[5], v[6], v[7]
	for i, word := range w {
		t := h + word + cubeRoots[i] +
			(turn64(e, 14) ^ turn64(e, 18) ^ turn64(e, 41)) +
			(e&f ^ ^e&g)
		u := (turn64(a, 28) ^ turn64(a, 34) ^ turn64(a, 39)) +
			(a&b ^ a&c ^ b&c)
		a, b, c, d, e, f, g, h = t+u, a, b, c, d+t, e, f, g
	}
	for i, word := range [8]uint64{a, b, c, d, e, f, g, h} {
		s.chain[i] = v[i] + word
	}
}

// turn32 and turn64: x with its n lowest bits brought to the top.

func turn32(x uint32, n int) uint32 { return bits.RotateLeft32(x, -n) }

func turn64(x uint64, n int) uint64 { return bits.RotateLeft64(x, -n) }

// get: the number of at most eight bytes, the most significant first.
func get(b []byte) uint64 {
	n := uint64(0)
	for _, x := range b {
		n = n<<8 | uint64(x)
	}
	return n
}

// put writes n into b, the most significant byte first; what b has no room for is left out.
func put(b []byte, n uint64) {
	for i := range b {
		b[i] = byte(n >> (8 * (len(b) - 1 - i)))
	}
}
