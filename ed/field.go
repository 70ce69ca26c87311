package ed

import (
	"signet/api"
	"signet/modn"
	"signet/nat"
)

// The numbers of the curve, limb by limb, the lowest first.
var (
	prime        = [8]uint32{0xffffffed, 0xffffffff, 0xffffffff, 0xffffffff, 0xffffffff, 0xffffffff, 0xffffffff, 0x7fffffff}
	order        = [8]uint32{0x5cf5d3ed, 0x5812631a, 0xa2f79cd6, 0x14def9de, 0x00000000, 0x00000000, 0x00000000, 0x10000000}
	curveD       = [8]uint32{0x135978a3, 0x75eb4dca, 0x4141d8ab, 0x00700a4d, 0x7779e898, 0x8cc74079, 0x2b6ffe73, 0x52036cee}
	minusOneRoot = [8]uint32{0x4a0ea0b0, 0xc4ee1b27, 0xad2fe478, 0x2f431806, 0x3dfbd7a7, 0x2b4d0099, 0x4fc1df0b, 0x2b832480}
	baseX        = [8]uint32{0x8f25d51a, 0xc9562d60, 0x9525a7b2, 0x692cc760, 0xfdd6dc5c, 0xc0a4e231, 0xcd6e53fe, 0x216936d3}
	baseY        = [8]uint32{0x66666658, 0x66666666, 0x66666666, 0x66666666, 0x66666666, 0x66666666, 0x66666666, 0x66666666}
)

// number: one of them, in memory of its own.
func number(limbs [8]uint32) api.Nat {
	n := make(api.Nat, len(limbs))
	copy(n, limbs[:])
	return n
}

func one() api.Nat { return nat.FromUint(1) }

// What is reckoned modulo the prime has far fewer limbs than modn takes, so it refuses nothing.

func add(a, b api.Nat) api.Nat {
	n, _ := modn.Add(a, b, number(prime))
	return n
}

func sub(a, b api.Nat) api.Nat {
	n, _ := modn.Sub(a, b, number(prime))
	return n
}

func mul(a, b api.Nat) api.Nat {
	n, _ := modn.Mul(a, b, number(prime))
	return n
}

// inverse: of a number that is not nought.
func inverse(a api.Nat) api.Nat {
	n, _ := modn.Inv(a, number(prime))
	return n
}

// root: a number whose square is a; of an a that is no square any number.
func root(a api.Nat) api.Nat {
	// Modulo a prime that is 5 modulo 8 the square of this power is a or - a.
	eighth := nat.Shr(nat.Add(number(prime), nat.FromUint(3)), 3)
	n, _ := modn.Exp(a, eighth, number(prime))
	if nat.Cmp(mul(n, n), a) == 0 {
		return n
	}
	return mul(n, number(minusOneRoot))
}
