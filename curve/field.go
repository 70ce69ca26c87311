package curve

import (
	"signet/api"
	"signet/modn"
	"signet/nat"
)

// field: the numbers below a prime, and the b of the curve over them. What is reckoned here has far fewer limbs than modn takes, so it refuses nothing.
type field struct{ prime, b api.Nat }

// ratio: a point with the coordinates x / z and y / z; O, if z is nought. So a sum needs no division.
type ratio struct{ x, y, z api.Nat }

func infinity() ratio { return ratio{y: nat.FromUint(1)} }

func asRatio(p api.Point) ratio {
	if p.Inf {
		return infinity()
	}
	return ratio{proper(p.X), proper(p.Y), nat.FromUint(1)}
}

func (f field) point(r ratio) api.Point {
	if nat.Bits(r.z) == 0 {
		return api.Point{Inf: true}
	}
	inverse, _ := modn.Inv(r.z, f.prime)
	return api.Point{X: f.mul(r.x, inverse), Y: f.mul(r.y, inverse)}
}

// fulfils: is y^2 = x^3 - 3 x + b?
func (f field) fulfils(x, y api.Nat) bool {
	cube := nat.Mul(f.mul(x, x), x)
	return nat.Cmp(f.mul(y, y), f.sub(nat.Add(cube, f.b), thrice(x))) == 0
}

func (f field) step(sum, next ratio) ratio { return f.plus(f.plus(sum, sum), next) }

// plus: the sum, by the formulas of Renes, Costello and Batina. On a curve where no point but O is its own opposite they hold for all alike: for a point and itself, its opposite or O too.
func (f field) plus(p, q ratio) ratio {
	xx, yy, zz := f.mul(p.x, q.x), f.mul(p.y, q.y), f.mul(p.z, q.z)
	xy := f.add(nat.Mul(p.x, q.y), nat.Mul(p.y, q.x))
	xz := f.add(nat.Mul(p.x, q.z), nat.Mul(p.z, q.x))
	yz := f.add(nat.Mul(p.y, q.z), nat.Mul(p.z, q.y))
	u := thrice(f.sub(xx, zz))
	v := thrice(f.sub(nat.Mul(f.b, zz), xz))
	w := thrice(f.sub(nat.Mul(f.b, xz), nat.Add(xx, thrice(zz))))
	more, less := nat.Add(yy, v), f.sub(yy, v)
	return ratio{
		x: f.sub(nat.Mul(xy, less), nat.Mul(yz, w)),
		y: f.add(nat.Mul(more, less), nat.Mul(u, w)),
		z: f.add(nat.Mul(yz, more), nat.Mul(xy, u)),
	}
}

func (f field) add(a, b api.Nat) api.Nat {
	n, _ := modn.Add(a, b, f.prime)
	return n
}

func (f field) sub(a, b api.Nat) api.Nat {
	n, _ := modn.Sub(a, b, f.prime)
	return n
}

func (f field) mul(a, b api.Nat) api.Nat {
	n, _ := modn.Mul(a, b, f.prime)
	return n
}

func thrice(n api.Nat) api.Nat { return nat.Mul(n, nat.FromUint(3)) }
