package ed

import (
	"signet/api"
	"signet/nat"
)

// ratio: a point with the coordinates x / z and y / z, where z is not nought, and t = x y / z. So a sum needs no division.
type ratio struct{ x, y, z, t api.Nat }

func neutral() ratio { return ratio{y: one(), z: one()} }

func asRatio(p api.Point) ratio { return ratio{proper(p.X), proper(p.Y), one(), mul(p.X, p.Y)} }

func (r ratio) point() api.Point {
	over := inverse(r.z)
	return api.Point{X: mul(r.x, over), Y: mul(r.y, over)}
}

// plus: the sum, by the curve's own formula. It holds for all points alike: neither divisor is ever nought.
func plus(p, q ratio) ratio {
	x := add(nat.Mul(p.x, q.y), nat.Mul(q.x, p.y))
	y := add(nat.Mul(p.y, q.y), nat.Mul(p.x, q.x))
	z := mul(p.z, q.z)
	t := mul(number(curveD), mul(p.t, q.t))
	more, less := add(z, t), sub(z, t)
	return ratio{x: mul(x, less), y: mul(y, more), z: mul(more, less), t: mul(x, y)}
}

// ladder: a times p and b times q, their digits gone through together from the highest on.
func ladder(a, b api.Nat, p, q ratio) ratio {
	sum := neutral()
	next := [...]ratio{sum, p, q, plus(p, q)}
	digits := max(nat.Bits(a), nat.Bits(b))
	for i := range digits {
		at := digits - 1 - i
		sum = plus(sum, sum)
		if which := digit(a, at) + 2*digit(b, at); which > 0 {
			sum = plus(sum, next[which])
		}
	}
	return sum
}

func digit(n api.Nat, at int) int {
	if nat.Bit(n, at) {
		return 1
	}
	return 0
}

func opposite(p api.Point) api.Point { return api.Point{X: sub(nil, p.X), Y: p.Y} }

// on: is it a point of the curve?
func on(p api.Point) bool {
	if p.Inf || nat.Cmp(p.X, number(prime)) >= 0 || nat.Cmp(p.Y, number(prime)) >= 0 {
		return false
	}
	xx, yy := mul(p.X, p.X), mul(p.Y, p.Y)
	return nat.Cmp(sub(yy, xx), add(one(), mul(number(curveD), mul(xx, yy)))) == 0
}

// beside: an x that makes a pair of the curve with y, if there is one.
func beside(y api.Nat) api.Nat {
	square := mul(y, y)
	// The divisor is never nought: - 1 / d is no square.
	divisor := add(one(), mul(number(curveD), square))
	return root(mul(sub(square, one()), inverse(divisor)))
}

// proper: the number without noughts on top: many steps would each go through them anew.
func proper(n api.Nat) api.Nat { return nat.Shr(n, 0) }
