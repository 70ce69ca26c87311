package curve_test

import (
	"math/big"
	"math/rand"
	"testing"

	"signet/api"
	"signet/curve"
)

// The laws of the group and of multiples, by the calls alone.

func added(t *testing.T, c api.Crv, p, q api.Point) api.Point {
	t.Helper()
	return sure(t, answered(curve.Add(c, p, q)))
}

func multiplied(t *testing.T, c api.Crv, k *big.Int, p api.Point) api.Point {
	t.Helper()
	return sure(t, answered(curve.Mul(c, limbs(k), p)))
}

func mustAgree(t *testing.T, law string, p, q api.Point) {
	t.Helper()
	if !same(p, q) {
		t.Fatalf("%s: %s is not %s", law, told(p), told(q))
	}
}

func TestGroup(t *testing.T) {
	both(t, func(t *testing.T, c api.Crv) {
		all := points(t, c)
		r := rand.New(rand.NewSource(23))
		draw := func() api.Point { return all[r.Intn(len(all))] }
		for i, p := range all {
			opposite := sure(t, answered(curve.Neg(c, p)))
			mustAgree(t, "11.8: P and Neg P make O", added(t, c, p, opposite), infinite())
			mustAgree(t, "11.8: Neg P and P make O", added(t, c, opposite, p), infinite())
			mustAgree(t, "11.8: O does nothing", added(t, c, p, infinite()), p)
			for _, l := range [][2]api.Point{{draw(), draw()}, {p, p}, {p, draw()}, {opposite, p}, {opposite, draw()}, {infinite(), draw()}, {all[(i+1)%len(all)], all[(i+2)%len(all)]}} {
				q, s := l[0], l[1]
				sum := added(t, c, p, q)
				if !curve.On(c, sum) {
					t.Fatalf("11.8: the sum of %s is no point: %s", told(p, q), told(sum))
				}
				mustAgree(t, "11.8: P + Q = Q + P", sum, added(t, c, q, p))
				mustAgree(t, "11.8: (P + Q) + R = P + (Q + R)", added(t, c, sum, s), added(t, c, p, added(t, c, q, s)))
			}
		}
	})
}

func TestMultiples(t *testing.T) {
	both(t, func(t *testing.T, c api.Crv) {
		n := known(c).n
		r := rand.New(rand.NewSource(24))
		draw := func() *big.Int { return new(big.Int).Rand(r, power(1+r.Intn(1023))) }
		for i, p := range few(t, c) {
			mustAgree(t, "11.9: Mul(0, P) is O", multiplied(t, c, new(big.Int), p), infinite())
			mustAgree(t, "11.9: Mul(1, P) is P", multiplied(t, c, big.NewInt(1), p), p)
			mustAgree(t, "11.9: Mul(n, P) is O", multiplied(t, c, n, p), infinite())
			for _, k := range []*big.Int{new(big.Int), big.NewInt(1), plus(n, -2), plus(n, -1), n, plus(n, 1), plus(times(n, 2), -1), plus(power(1024), -2), draw(), draw()} {
				mustAgree(t, "11.9: Mul(k + 1, P) = Mul(k, P) + P", multiplied(t, c, plus(k, 1), p), added(t, c, multiplied(t, c, k, p), p))
			}
			for _, l := range [][2]*big.Int{{draw(), draw()}, {n, draw()}, {draw(), plus(n, -1)}, {plus(power(1023), -1), power(1023)}, {big.NewInt(int64(i)), plus(n, int64(-i))}} {
				a, b := l[0], l[1]
				if sum := new(big.Int).Add(a, b); sum.BitLen() <= 1024 {
					mustAgree(t, "11.9: Mul(a + b, P) = Mul(a, P) + Mul(b, P)", multiplied(t, c, sum, p), added(t, c, multiplied(t, c, a, p), multiplied(t, c, b, p)))
				}
				joint := sure(t, answered(curve.Joint(c, limbs(a), limbs(b), p)))
				mustAgree(t, "11.9: Joint(a, b, Q) = Mul(a, G) + Mul(b, Q)", joint, added(t, c, multiplied(t, c, a, curve.Base(c)), multiplied(t, c, b, p)))
			}
		}
	})
}

// Mul(a, Mul(b, P)) is Mul(a b, P), and multiples of a sum are the sums of multiples.
func TestMultiplesOfMultiples(t *testing.T) {
	both(t, func(t *testing.T, c api.Crv) {
		r := rand.New(rand.NewSource(25))
		all := few(t, c)
		for i, p := range all {
			a, b := new(big.Int).Rand(r, power(512)), new(big.Int).Rand(r, power(512))
			mustAgree(t, "11.9: Mul(a, Mul(b, P)) = Mul(a b, P)", multiplied(t, c, a, multiplied(t, c, b, p)), multiplied(t, c, new(big.Int).Mul(a, b), p))
			q := all[(i+1)%len(all)]
			mustAgree(t, "11.9: Mul(a, P + Q) = Mul(a, P) + Mul(a, Q)", multiplied(t, c, a, added(t, c, p, q)), added(t, c, multiplied(t, c, a, p), multiplied(t, c, a, q)))
		}
	})
}
