package modn

import (
	"signet/api"
	"signet/nat"
)

// search: Euclid's search for what divides both a and m. After each step what divides left and divisor is what divides a and m, and each of the two differs by a multiple of m from a times the factor beside it.
type search struct {
	m                api.Nat
	left, leftFactor api.Nat
	divisor, factor  api.Nat
}

func begin(a, m api.Nat) search {
	m = proper(m)
	return search{m: m, left: rest(a, m), leftFactor: nat.FromUint(1), divisor: m}
}

// done: with nothing left the divisor is the greatest that a and m share.
func (s *search) done() bool { return nat.Bits(s.left) == 0 }

// divide: a step modulo any number.
func (s *search) divide() {
	q, r, _ := nat.DivMod(s.divisor, s.left)
	s.swap()
	s.left, s.leftFactor = r, less(s.leftFactor, rest(nat.Mul(q, s.factor), s.m), s.m)
}

// halve: a step modulo an odd number, without a division. The divisor stays odd: a 2 in what is left is none that both share.
func (s *search) halve() {
	if !nat.Bit(s.left, 0) {
		s.left, s.leftFactor = nat.Shr(s.left, 1), half(s.leftFactor, s.m)
		return
	}
	if nat.Cmp(s.left, s.divisor) < 0 {
		s.swap()
	}
	s.left, _ = nat.Sub(s.left, s.divisor)
	s.leftFactor = less(s.leftFactor, s.factor, s.m)
}

func (s *search) swap() {
	s.left, s.divisor = s.divisor, s.left
	s.leftFactor, s.factor = s.factor, s.leftFactor
}

// half: the number whose double is n modulo an odd m, of an n below m.
func half(n, m api.Nat) api.Nat {
	if nat.Bit(n, 0) {
		n = nat.Add(n, m)
	}
	return nat.Shr(n, 1)
}
