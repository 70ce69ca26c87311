package curve_test

import (
	"fmt"
	"math/big"
	"math/rand"
	"slices"
	"strings"
	"testing"

	"signet/api"
)

const full = 1<<32 - 1

var (
	curves   = []api.Crv{api.P256, api.P384}
	noCurves = []api.Crv{0, 3, -1, 4, -2, 255, 256, 257, 384, 1 << 32, 1<<32 + 1, 1<<32 + 2, -1 << 63, -1<<63 + 1, -1<<63 + 2, 1<<63 - 1}
)

// both runs a test on each of the curves, side by side.
func both(t *testing.T, test func(t *testing.T, c api.Crv)) {
	t.Parallel()
	for _, c := range curves {
		t.Run(fmt.Sprintf("P%d", 8*known(c).size), func(t *testing.T) {
			t.Parallel()
			test(t, c)
		})
	}
}

// told: curves, numbers, points and bytes, to be read.
func told(parts ...any) string {
	var out []string
	for _, part := range parts {
		switch x := part.(type) {
		case api.Nat:
			out = append(out, fmt.Sprintf("%x (%d limbs)", value(x), len(x)))
		case api.Point:
			out = append(out, fmt.Sprintf("point %s, %s, Inf %t", told(x.X), told(x.Y), x.Inf))
		case []byte:
			out = append(out, fmt.Sprintf("%d bytes %x", len(x), x))
		default:
			out = append(out, fmt.Sprint(x))
		}
	}
	return strings.Join(out, ", ")
}

func other(c api.Crv) api.Crv { return api.P256 + api.P384 - c }

func small(u uint32) api.Nat { return limbs(big.NewInt(int64(u))) }

// padded: a number with k noughts on top.
func padded(n api.Nat, k int) api.Nat { return slices.Concat(n, make(api.Nat, k)) }

// power: 2^k.
func power(k int) *big.Int { return new(big.Int).Lsh(big.NewInt(1), uint(k)) }

func infinite() api.Point { return api.Point{Inf: true} }

// at: the pair as it stands, a point or none.
func at(x, y *big.Int) api.Point { return api.Point{X: limbs(x), Y: limbs(y)} }

// over: the points whose x is this number; none or two.
func over(c api.Crv, x *big.Int) []api.Point {
	w := known(c)
	y := new(big.Int).ModSqrt(w.right(x), w.p)
	if y == nil {
		return nil
	}
	return []api.Point{at(x, y), at(x, new(big.Int).Sub(w.p, y))}
}

// low: three points of a curve with one and the same small y, so that the sum of two has the slope nought.
func low(c api.Crv) []api.Point {
	xs, y := []string{"9e78d4ef60d05f750f6636209092bc43cbdd6b47e11a9de20a9feb2a50bb96c", "6916fac45e568b6b9e2e2ecd611b282e5fcc40a3067d601057f879ce5a8a73cc", "8d0177ebab9c6e9e10db6dd095dbac0d6375e8a97b70f611875d877f0069d2c7"}, int64(1)
	if c == api.P384 {
		xs, y = []string{"a829aa21faf8544cb547d22cf64c97982898907052901231fe4836d85ce4d44a55009f4442548cdd9e1a9541a8f257ec", "9191a271dd990a43bd7c161f39eb0da671e729aad96215af4a9b75047f5b0e964fdceef9cd468abc0fc0ba0c2da5f786", "c644b36c276ea16f8d3c17b3cfc85ac1658045e4d40dd81eb71c542323c01d1d5b2271bff064e8665224b0b42967b08c"}, 3
	}
	var out []api.Point
	for _, x := range xs {
		out = append(out, at(hexed(x), big.NewInt(y)))
	}
	return out
}

// multiple: k times the base point, for a k that may be below 0.
func multiple(c api.Crv, k int64) api.Point {
	w := known(c)
	s := w.mul(big.NewInt(max(k, -k)), w.base())
	if k < 0 {
		s = w.neg(s)
	}
	return s.point()
}

// narrow: points of which a coordinate has a byte 0 ahead, of one each.
func narrow(c api.Crv) []api.Point {
	w := known(c)
	out := make([]api.Point, 2)
	s := w.base()
	for len(out[0].X) == 0 || len(out[1].X) == 0 {
		s = w.add(s, w.base())
		if s.x.BitLen() <= 8*w.size-8 {
			out[0] = s.point()
		}
		if s.y.BitLen() <= 8*w.size-8 {
			out[1] = s.point()
		}
	}
	return out
}

// points: O, multiples of G, points over small numbers (nought among them) and over the greatest, with small y, with a byte 0 ahead.
func points(t *testing.T, c api.Crv) []api.Point {
	t.Helper()
	w := known(c)
	out := []api.Point{infinite()}
	for _, k := range []int64{1, -1, 2, -2, 3, 1 << 40} {
		out = append(out, multiple(c, k))
	}
	for x := range int64(6) {
		out = append(out, over(c, big.NewInt(x))...)
		out = append(out, over(c, plus(w.p, -1-x))...)
	}
	out = slices.Concat(out, low(c), narrow(c))
	r := rand.New(rand.NewSource(int64(c)))
	for range 4 {
		out = append(out, over(c, new(big.Int).Rand(r, w.p))...)
	}
	for _, p := range out {
		if !wantOn(c, p) {
			t.Fatalf("%s is none", told(p))
		}
	}
	return out
}

// few: some of them, one of each kind.
func few(t *testing.T, c api.Crv) []api.Point {
	t.Helper()
	return []api.Point{infinite(), multiple(c, 1), multiple(c, -7), over(c, new(big.Int))[0], low(c)[1], narrow(c)[0]}
}

// strangers: what is no point of the curve.
func strangers(t *testing.T, c api.Crv) []api.Point {
	t.Helper()
	w := known(c)
	one := small(1)
	out := []api.Point{{}, {X: api.Nat{0}, Y: api.Nat{0, 0}}, {X: one}, {Y: one}, {X: one, Y: one}, {X: one, Inf: true}, {Y: one, Inf: true}, {X: one, Y: one, Inf: true}, {X: api.Nat{0, 0, 1}, Inf: true}, {Y: padded(one, 3), Inf: true}, {X: limbs(w.p), Inf: true}, {Y: limbs(w.p), Inf: true}, {X: limbs(w.p), Y: limbs(w.p), Inf: true}, at(w.p, w.p), at(w.x, w.p), at(w.p, w.y), at(w.x, new(big.Int)), at(new(big.Int), w.y), at(w.y, w.x)}
	for _, p := range points(t, other(c)) {
		if !p.Inf && !wantOn(c, p) {
			out = append(out, p)
		}
	}
	for _, p := range points(t, c) {
		if p.Inf {
			continue
		}
		x, y := value(p.X), value(p.Y)
		out = append(out, api.Point{X: p.X, Y: p.Y, Inf: true}, api.Point{X: p.X}, api.Point{Y: p.Y, Inf: true})
		for _, by := range []*big.Int{w.p, times(w.p, 2), power(8 * w.size), power(32 * 40)} {
			out = append(out, at(new(big.Int).Add(x, by), y), at(x, new(big.Int).Add(y, by)), at(new(big.Int).Add(x, by), new(big.Int).Add(y, by)))
		}
		for _, near := range beside(p) {
			if !wantOn(c, near) {
				out = append(out, near)
			}
		}
	}
	for _, p := range out {
		if wantOn(c, p) {
			t.Fatalf("%s is one of the curve", told(p))
		}
	}
	return out
}

// beside: the pairs that differ from a point's by 1 in one place, or by one binary digit.
func beside(p api.Point) []api.Point {
	x, y := value(p.X), value(p.Y)
	var out []api.Point
	for _, by := range []int64{1, -1} {
		if moved := plus(x, by); moved.Sign() >= 0 {
			out = append(out, at(moved, y))
		}
		if moved := plus(y, by); moved.Sign() >= 0 {
			out = append(out, at(x, moved))
		}
	}
	for _, i := range []int{1, 31, 32, 100, 224, 255, 256, 383, 384} {
		out = append(out, at(new(big.Int).Xor(x, power(i)), y), at(x, new(big.Int).Xor(y, power(i))))
	}
	return out
}

// scalars: what every call takes, edges of the order and of the limbs.
func scalars(c api.Crv) []api.Nat {
	n := known(c).n
	out := []api.Nat{nil, {}, {0}, make(api.Nat, 33), make(api.Nat, 200), {1}, {1, 0}, padded(small(1), 40), {2}, {3}, {4}, {5}, {6, 0, 0}, {7}, {full}, {0, 1}, {1, 1}, padded(api.Nat{0, 0, 5}, 60)}
	for _, multiple := range []int64{1, 2, 3, 1 << 20} {
		for by := int64(-3); by <= 3; by++ {
			out = append(out, limbs(plus(times(n, multiple), by)))
		}
	}
	out = append(out, padded(limbs(n), 1), padded(limbs(n), 100), limbs(new(big.Int).Rsh(n, 1)), limbs(plus(new(big.Int).Rsh(n, 1), 1)), limbs(new(big.Int).Mul(n, n)), limbs(plus(new(big.Int).Mul(n, n), 1)), limbs(known(c).p), limbs(power(8*known(c).size)), limbs(plus(power(8*known(c).size), -1)))
	greatest := new(big.Int).Div(power(1024), n)
	return append(out, limbs(power(1023)), limbs(plus(power(1024), -1)), padded(limbs(plus(power(1024), -1)), 1), padded(limbs(power(1023)), 50), limbs(greatest.Mul(greatest, n)))
}

// largeScalars: what no call takes.
func largeScalars(c api.Crv) []api.Nat {
	n := known(c).n
	return []api.Nat{limbs(power(1024)), limbs(plus(power(1024), 1)), append(slices.Repeat(api.Nat{full}, 32), 1), append(slices.Repeat(api.Nat{full}, 32), full), padded(limbs(power(1024)), 1), padded(limbs(power(1024)), 40), limbs(power(1024 + 31)), limbs(power(1024 + 32)), limbs(power(4096)), limbs(new(big.Int).Lsh(n, 1024-255)), append(make(api.Nat, 1000), 1)}
}

// drawnScalar: of up to most limbs, many of them at an edge.
func drawnScalar(r *rand.Rand, most int) api.Nat {
	k := make(api.Nat, r.Intn(most+1))
	for i := range k {
		k[i] = []uint32{0, 1, full, 1 << 31, r.Uint32(), r.Uint32()}[r.Intn(6)]
	}
	return k
}
