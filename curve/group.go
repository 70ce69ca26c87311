package curve

import (
	"strconv"

	"signet/api"
	"signet/nat"
)

// group: what differs between the curves.
type group struct {
	field
	size  int // bytes of a coordinate
	order api.Nat
	base  api.Point
	step  func(sum, next ratio) ratio // one of the ladder: twice the sum, and next
}

// of: a curve's group, in memory of its own; of what is neither curve one of size 0, without a point.
func of(c api.Crv) group {
	switch c {
	case api.P256:
		return p256()
	case api.P384:
		return p384()
	}
	return group{}
}

func p256() group {
	f := field{
		prime: number("ffffffff00000001000000000000000000000000ffffffffffffffffffffffff"),
		b:     number("5ac635d8aa3a93e7b3ebbd55769886bc651d06b0cc53b0f63bce3c3e27d2604b"),
	}
	return group{
		field: f,
		size:  32,
		order: number("ffffffff00000000ffffffffffffffffbce6faada7179e84f3b9cac2fc632551"),
		base: api.Point{
			X: number("6b17d1f2e12c4247f8bce6e563a440f277037d812deb33a0f4a13945d898c296"),
			Y: number("4fe342e2fe1a7f9b8ee7eb4a7c0f9e162bce33576b315ececbb6406837bf51f5"),
		},
		step: f.step,
	}
}

func p384() group {
	f := field{
		prime: number("fffffffffffffffffffffffffffffffffffffffffffffffffffffffffffffffeffffffff0000000000000000ffffffff"),
		b:     number("b3312fa7e23ee7e4988e056be3f82d19181d9c6efe8141120314088f5013875ac656398d8a2ed19d2a85c8edd3ec2aef"),
	}
	return group{
		field: f,
		size:  48,
		order: number("ffffffffffffffffffffffffffffffffffffffffffffffffc7634d81f4372ddf581a0db248b0a77aecec196accc52973"),
		base: api.Point{
			X: number("aa87ca22be8b05378eb1c71ef320ad746e1d3b628ba79b9859f741e082542a385502f25dbf55296c3a545e3872760ab7"),
			Y: number("3617de4a96262c6f5d9e98bf9292dc29f8f41dbd289a147ce9da3113b5f0b8c00a60b1ce1d7e819d7a431d7c90ea0e5f"),
		},
		step: f.step,
	}
}

// number: that of digits in the base sixteen, of which eight make a limb.
func number(digits string) api.Nat {
	n := make(api.Nat, len(digits)/8)
	for i := range n {
		end := len(digits) - 8*i
		limb, _ := strconv.ParseUint(digits[end-8:end], 16, 32)
		n[i] = uint32(limb)
	}
	return n
}

// has: is it a point of the group?
func (g group) has(p api.Point) bool {
	switch {
	case g.size == 0:
		return false
	case p.Inf:
		return nat.Bits(p.X) == 0 && nat.Bits(p.Y) == 0
	case nat.Cmp(p.X, g.prime) >= 0 || nat.Cmp(p.Y, g.prime) >= 0:
		return false
	}
	return g.fulfils(p.X, p.Y)
}

// ladder: a times p and b times q, their digits gone through together from the highest on.
func (g group) ladder(a, b api.Nat, p, q ratio) ratio {
	// Every point makes O when it is taken as many times as the order says.
	_, a, _ = nat.DivMod(a, g.order)
	_, b, _ = nat.DivMod(b, g.order)
	sum := infinity()
	next := [...]ratio{sum, p, q, g.plus(p, q)}
	digits := max(nat.Bits(a), nat.Bits(b))
	for i := range digits {
		at := digits - 1 - i
		sum = g.step(sum, next[digit(a, at)+2*digit(b, at)])
	}
	return sum
}

func digit(n api.Nat, at int) int {
	if nat.Bit(n, at) {
		return 1
	}
	return 0
}
