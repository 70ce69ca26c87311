package ed_test

import (
	"math/big"
	"math/rand"
	"testing"

	"signet/api"
	"signet/ed"
)

// All pairs: with the neutral point on either side, with itself, with its opposite, with points of small order.
func TestAdd(t *testing.T) {
	t.Parallel()
	all := points(t)
	one := neutral().point()
	for i, s := range all {
		p := s.point()
		for j, o := range all {
			holdAdd(t, p, o.point())
			if j < 3 || i < 3 || i == j {
				holdAdd(t, paddedPoint(p, i%3, j%3), paddedPoint(o.point(), (i+j)%3, 1))
			}
		}
		opposite := s.neg().point()
		mustBe(t, "13.3", "a point and its opposite", sure(t, answered(ed.Add(p, opposite))), api.OK, one, api.OK)
		mustBe(t, "13.3", "the opposite and its point", sure(t, answered(ed.Add(opposite, p))), api.OK, one, api.OK)
		mustBe(t, "13.3", "the neutral point and one", sure(t, answered(ed.Add(one, p))), api.OK, p, api.OK)
		mustBe(t, "13.3", "a point and the neutral one", sure(t, answered(ed.Add(p, api.Point{X: api.Nat{0, 0}, Y: api.Nat{1, 0}}))), api.OK, p, api.OK)
	}
}

func TestAddRefuses(t *testing.T) {
	t.Parallel()
	all := strangers(t)
	for i, bad := range all {
		for _, p := range []api.Point{neutral().point(), base().point(), smalls()[3].point(), bad, all[(i*7+1)%len(all)]} {
			for _, l := range [][2]api.Point{{p, bad}, {bad, p}} {
				got, code := ed.Add(l[0], l[1])
				mustBe(t, "13.3", "Add("+told(l[0], l[1])+")", got, code, api.Point{}, api.ErrPoint)
			}
		}
	}
}

func TestMul(t *testing.T) {
	t.Parallel()
	all := points(t)
	for i, k := range scalars() {
		holdMul(t, k, base().point())
		holdMul(t, k, all[i%len(all)].point())
		holdMul(t, k, smalls()[i%8].point())
	}
	for i, s := range few(t) {
		for _, k := range []api.Nat{nil, {1}, {2}, {3}, {8}, limbs(order), limbs(plus(order, -1)), limbs(times(order, 8))} {
			holdMul(t, padded(k, i%2), paddedPoint(s.point(), i%3, i%2))
		}
	}
}

// k times a point is the sum of k of it, counted out.
func TestCounted(t *testing.T) {
	t.Parallel()
	for _, s := range few(t) {
		sum := neutral()
		for k := range int64(40) {
			got, code := ed.Mul(limbs(big.NewInt(k)), s.point())
			mustBe(t, "13.3", "Mul("+told(k, s.point())+")", got, code, sum.point(), api.OK)
			sum = sum.add(s)
		}
	}
}

func TestMulRefuses(t *testing.T) {
	t.Parallel()
	for _, k := range largeScalars() {
		for _, s := range few(t) {
			got, code := ed.Mul(k, s.point())
			mustBe(t, "13.3", "Mul("+told(k, s.point())+")", got, code, api.Point{}, api.ErrLarge)
		}
	}
	for _, bad := range strangers(t) {
		for _, k := range []api.Nat{nil, {1}, {2}, limbs(order)} {
			got, code := ed.Mul(k, bad)
			mustBe(t, "13.3", "Mul("+told(k, bad)+")", got, code, api.Point{}, api.ErrPoint)
		}
	}
}

// The L-fold of a point is the neutral one just where it has no part of small order; the 8 L-fold always is.
func TestOrders(t *testing.T) {
	t.Parallel()
	one := neutral().point()
	for i, e := range smalls() {
		for _, s := range []spot{neutral(), base(), multiple(-77)} {
			p := s.add(e).point()
			got := sure(t, answered(ed.Mul(ed.Order(), p)))
			if same(got, one) != (i == 0) {
				t.Fatalf("13.5: L times %s = %s", told(p), told(got))
			}
			mustBe(t, "13.3", "L times "+told(p), got, api.OK, e.mul(order).point(), api.OK)
			mustBe(t, "13.5", "8 L times "+told(p), sure(t, answered(ed.Mul(limbs(times(order, 8)), p))), api.OK, one, api.OK)
		}
		least := int64(1)
		for !same(sure(t, answered(ed.Mul(limbs(big.NewInt(least)), e.point()))), one) {
			least++
		}
		if want := []int64{1, 8, 4, 8, 2, 8, 4, 8}[i]; least != want {
			t.Fatalf("13.3: %s makes the neutral point %d times, want %d", told(e.point()), least, want)
		}
	}
}

func mustAgree(t *testing.T, what string, p, q api.Point) {
	t.Helper()
	if !same(p, q) {
		t.Fatalf("%s: %s and %s", what, told(p), told(q))
	}
}

func added(t *testing.T, p, q api.Point) api.Point {
	t.Helper()
	return sure(t, answered(ed.Add(p, q)))
}

func multiplied(t *testing.T, k *big.Int, p api.Point) api.Point {
	t.Helper()
	return sure(t, answered(ed.Mul(limbs(k), p)))
}

// 13.5: the laws of sums.
func TestGroup(t *testing.T) {
	t.Parallel()
	r := rand.New(rand.NewSource(21))
	all := points(t)
	draw := func() api.Point { return all[r.Intn(len(all))].point() }
	one := neutral().point()
	for i, s := range all {
		p, opposite := s.point(), s.neg().point()
		mustAgree(t, "13.5: a point and its opposite", added(t, p, opposite), one)
		mustAgree(t, "13.5: the neutral point does nothing", added(t, p, one), p)
		for _, l := range [][2]api.Point{{draw(), draw()}, {p, p}, {p, draw()}, {opposite, p}, {opposite, draw()}, {one, draw()}, {all[(i+1)%len(all)].point(), all[(i+2)%len(all)].point()}} {
			q, o := l[0], l[1]
			sum := added(t, p, q)
			if _, ok := of(sum); !ok {
				t.Fatalf("13.5: the sum of %s is not on the curve: %s", told(p, q), told(sum))
			}
			mustAgree(t, "13.5: p + q = q + p", sum, added(t, q, p))
			mustAgree(t, "13.5: (p + q) + o = p + (q + o)", added(t, sum, o), added(t, p, added(t, q, o)))
		}
	}
}

// 13.5: the laws of multiples.
func TestMultiples(t *testing.T) {
	t.Parallel()
	r := rand.New(rand.NewSource(22))
	draw := func() *big.Int { return drawn(r, 1+r.Intn(1023)) }
	mustAgree(t, "13.5: Mul(L, B)", multiplied(t, order, ed.Base()), neutral().point())
	all := few(t)
	for i, s := range all {
		p := s.point()
		mustAgree(t, "13.5: Mul(0, p) is neutral", multiplied(t, new(big.Int), p), neutral().point())
		mustAgree(t, "13.5: Mul(1, p) is p", multiplied(t, big.NewInt(1), p), p)
		for _, l := range [][2]*big.Int{{draw(), draw()}, {draw(), big.NewInt(1)}, {order, draw()}, {draw(), plus(order, -1)}, {plus(power(1023), -1), power(1023)}, {big.NewInt(int64(i)), plus(order, int64(-i))}, {times(order, 8), big.NewInt(1)}, {plus(power(1024), -2), big.NewInt(1)}} {
			a, b := l[0], l[1]
			mustAgree(t, "13.5: Mul(a + b, p) = Mul(a, p) + Mul(b, p)", multiplied(t, new(big.Int).Add(a, b), p), added(t, multiplied(t, a, p), multiplied(t, b, p)))
		}
		a, b := drawn(r, 512), drawn(r, 512)
		mustAgree(t, "13.5: Mul(a, Mul(b, p)) = Mul(a b, p)", multiplied(t, a, multiplied(t, b, p)), multiplied(t, new(big.Int).Mul(a, b), p))
		q := all[(i+1)%len(all)].point()
		mustAgree(t, "13.5: Mul(a, p + q) = Mul(a, p) + Mul(a, q)", multiplied(t, a, added(t, p, q)), added(t, multiplied(t, a, p), multiplied(t, a, q)))
	}
}
