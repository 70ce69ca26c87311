package curve_test

import (
	"math/rand"
	"slices"
	"testing"

	"signet/api"
	"signet/curve"
)

// hold: all calls, of whatever is handed in. Multiples are left out where they would only cost.
func hold(t *testing.T, c api.Crv, a, b api.Nat, p, q api.Point, multiples bool) {
	t.Helper()
	holdOn(t, c, p)
	holdNeg(t, c, p)
	holdAdd(t, c, p, q)
	holdEncode(t, c, p)
	if multiples {
		holdMul(t, c, a, p)
		holdJoint(t, c, a, b, q)
	}
}

// P1: whatever is handed in.
func TestWild(t *testing.T) {
	t.Parallel()
	r := rand.New(rand.NewSource(51))
	all := slices.Concat(curves, curves, curves, noCurves)
	var coordinates []api.Nat
	for _, c := range curves {
		for _, p := range points(t, c) {
			coordinates = append(coordinates, p.X, p.Y)
		}
		coordinates = append(coordinates, limbs(known(c).p), limbs(known(c).n), limbs(known(c).b))
	}
	coordinates = append(coordinates, nil, api.Nat{0}, api.Nat{1}, slices.Repeat(api.Nat{full}, 8), slices.Repeat(api.Nat{full}, 12), slices.Repeat(api.Nat{full}, 200), append(make(api.Nat, 300), 1))
	draw := func() api.Nat { return coordinates[r.Intn(len(coordinates))] }
	point := func(c api.Crv) api.Point {
		if r.Intn(3) == 0 && (c == api.P256 || c == api.P384) {
			return multiple(c, r.Int63n(9)-4)
		}
		at := r.Intn(len(coordinates) - 1)
		if r.Intn(2) == 0 {
			return api.Point{X: coordinates[at], Y: coordinates[at+1], Inf: r.Intn(9) == 0}
		}
		return api.Point{X: draw(), Y: draw(), Inf: r.Intn(4) == 0}
	}
	for round := range 3000 {
		c := all[r.Intn(len(all))]
		k := drawnScalar(r, 3)
		if round%10 == 0 {
			k = draw()
		}
		hold(t, c, k, drawnScalar(r, 2), point(c), point(c), true)
		holdDecode(t, c, drawnBytes(r, r.Intn(70)), drawnBytes(r, r.Intn(70)))
		p := point(c)
		x, y := value(p.X).Bytes(), value(p.Y).Bytes()
		holdDecode(t, c, x, y)
	}
}

func FuzzCalls(f *testing.F) {
	for _, c := range curves {
		x, y, _ := wantEncode(c, multiple(c, 1))
		f.Add(int(c), []byte{5}, []byte{1, 2, 3}, x, y, int8(0), int8(2), false)
		x, y, _ = wantEncode(c, low(c)[0])
		f.Add(int(c), known(c).n.Bytes(), known(c).p.Bytes(), x, y, int8(-1), int8(1), false)
		f.Add(int(c), []byte{}, []byte{0}, []byte{}, []byte{}, int8(3), int8(-3), true)
	}
	f.Fuzz(func(t *testing.T, crv int, a, b, x, y []byte, i, j int8, inf bool) {
		if len(a) > 200 || len(b) > 200 || len(x) > 200 || len(y) > 200 {
			return
		}
		c := api.Crv(crv)
		holdDecode(t, c, x, y)
		k, m := limbs(number(a)), limbs(number(b))
		p := api.Point{X: limbs(number(x)), Y: limbs(number(y)), Inf: inf}
		hold(t, c, k, m, p, p, true)
		if _, ok := plainOf(c); !ok {
			return
		}
		q := multiple(c, int64(i))
		hold(t, c, k, m, q, multiple(c, int64(j)), true)
		hold(t, c, k, m, p, q, false)
		for _, s := range over(c, number(x).Mod(number(x), known(c).p)) {
			hold(t, c, m, k, s, q, true)
			sum := sure(t, answered(curve.Add(c, s, q)))
			opposite, _ := curve.Neg(c, q)
			mustAgree(t, "11.8", sure(t, answered(curve.Add(c, sum, opposite))), s)
		}
	})
}
