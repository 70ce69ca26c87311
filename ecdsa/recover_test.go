package ecdsa_test

import (
	"bytes"
	"math/big"
	"math/rand"
	"testing"

	"signet/api"
	"signet/curve"
	"signet/ecdsa"
)

// somePoints: multiples of G, points over small x, over x of n and above, over drawn ones; their opposites too.
func somePoints(t *testing.T, c api.Crv, rnd *rand.Rand) []spot {
	t.Helper()
	w := known(c)
	out := []spot{w.base(), w.neg(w.base()), w.mul(drawn(rnd, c), w.base())}
	out = append(out, next(c, big.NewInt(1))...)
	out = append(out, next(c, plus(w.n, 1))...)
	out = append(out, next(c, plus(w.n, 1000))...)
	out = append(out, next(c, plus(w.p, -40))...)
	out = append(out, next(c, plus(w.n, -40))...)
	for range 3 {
		out = append(out, next(c, new(big.Int).Rand(rnd, w.n))...)
	}
	for _, p := range out {
		mustBeOn(t, c, p)
	}
	return out
}

// 12.2 and 12.3.
func TestRecover(t *testing.T) {
	both(t, func(t *testing.T, c api.Crv) {
		w := known(c)
		rnd := rand.New(rand.NewSource(11))
		reduced := 0
		for i, p := range somePoints(t, c, rnd) {
			r := new(big.Int).Mod(p.x, w.n)
			if p.x.Cmp(w.n) > 0 {
				reduced++
			}
			for j, s := range []*big.Int{big.NewInt(1), big.NewInt(2), plus(w.n, -1), r, drawn(rnd, c)} {
				message := drawnBytes(rnd, rnd.Intn(100))
				if got := holdRecover(t, hashes[(i+j)%3], c, message, limbs(r), limbs(s), p.point()); got != api.OK {
					t.Fatalf("12.2: %d", got)
				}
			}
		}
		if reduced < 4 {
			t.Errorf("%d points with an x above n", reduced)
		}
	})
}

// The owner of a key is told it back, of the point that was signed by, and another key of the opposite point: under both the signature holds.
func TestOwner(t *testing.T) {
	both(t, func(t *testing.T, c api.Crv) {
		w := known(c)
		rnd := rand.New(rand.NewSource(12))
		for _, h := range hashes {
			o, k, message := signerOf(c, drawn(rnd, c)), drawn(rnd, c), drawnBytes(rnd, 30)
			r, s := o.sign(h, message, k)
			p := w.mul(k, w.base())
			x, y, code := ecdsa.Recover(h, c, message, limbs(r), limbs(s), p.point())
			if code != api.OK || !bytes.Equal(x, o.x) || !bytes.Equal(y, o.y) {
				t.Fatalf("12.2: %x, %x, %d, want %x, %x", x, y, code, o.x, o.y)
			}
			u, v, code := ecdsa.Recover(h, c, message, limbs(r), limbs(s), w.neg(p).point())
			if code != api.OK || bytes.Equal(u, x) {
				t.Fatalf("12.2: of the opposite point %x, %x, %d", u, v, code)
			}
			mustVerify(t, "12.3", api.OK, h, c, u, v, message, joined(c, r, s))
			// n - s with the opposite point is the same equation.
			u, v, code = ecdsa.Recover(h, c, message, limbs(r), limbs(new(big.Int).Sub(w.n, s)), w.neg(p).point())
			if code != api.OK || !bytes.Equal(u, x) || !bytes.Equal(v, y) {
				t.Fatalf("12.2: of n - s and the opposite point %x, %x, %d", u, v, code)
			}
		}
	})
}

// One r of points over two x, n apart: each has its keys, and none is mistaken for the other.
func TestTwoOverOne(t *testing.T) {
	both(t, func(t *testing.T, c api.Crv) {
		w := known(c)
		message := []byte("a message")
		for r, found := int64(1), 0; found < 2; r++ {
			low, high := above(c, big.NewInt(r)), above(c, plus(w.n, r))
			if low == nil || high == nil {
				continue
			}
			found++
			keys := map[string]bool{}
			for _, p := range append(low, high...) {
				holdRecover(t, api.SHA256, c, message, limbs(big.NewInt(r)), api.Nat{9}, p.point())
				x, y, _ := ecdsa.Recover(api.SHA256, c, message, limbs(big.NewInt(r)), api.Nat{9}, p.point())
				keys[string(x)+string(y)] = true
				mustRefuse(t, "12.2: x unreduced", api.ErrSignature, api.SHA256, c, message, limbs(plus(w.n, r)), api.Nat{9}, p.point())
				mustRefuse(t, "12.2: another r", api.ErrSignature, api.SHA256, c, message, limbs(big.NewInt(r+1)), api.Nat{9}, p.point())
			}
			if len(keys) != 4 {
				t.Fatalf("12.2: %d keys of r = %d", len(keys), r)
			}
		}
	})
}

// Points whose x is nought, or n: r would be 0.
func TestNoughtAsR(t *testing.T) {
	both(t, func(t *testing.T, c api.Crv) {
		w := known(c)
		for _, x := range []*big.Int{new(big.Int), w.n} {
			for _, p := range above(c, x) {
				for _, r := range []api.Nat{nil, {}, {0, 0}, limbs(w.n), {1}} {
					mustRefuse(t, "12.2: no r", api.ErrSignature, api.SHA256, c, []byte("m"), r, api.Nat{5}, p.point())
				}
			}
		}
		if above(c, new(big.Int)) == nil {
			t.Error("no point over nought")
		}
	})
}

// s R = z G: the key would be at infinity.
func TestKeyAtInfinity(t *testing.T) {
	both(t, func(t *testing.T, c api.Crv) {
		w := known(c)
		rnd := rand.New(rand.NewSource(13))
		for _, h := range hashes {
			for _, k := range []*big.Int{big.NewInt(1), big.NewInt(2), plus(w.n, -1), drawn(rnd, c)} {
				message := drawnBytes(rnd, 20)
				p := w.mul(k, w.base())
				r := limbs(new(big.Int).Mod(p.x, w.n))
				s := w.over(w.z(h, message), k)
				mustRefuse(t, "12.2: at infinity", api.ErrSignature, h, c, message, r, limbs(s), p.point())
				if got := holdRecover(t, h, c, message, r, limbs(plus(s, 1)), p.point()); got != api.OK {
					t.Fatalf("12.2: %d", got)
				}
				// Of the opposite point s R and - z G are the same, and are doubled.
				if got := holdRecover(t, h, c, message, r, limbs(s), w.neg(p).point()); got != api.OK {
					t.Fatalf("12.2: %d", got)
				}
			}
		}
	})
}

func TestWrongPoints(t *testing.T) {
	both(t, func(t *testing.T, c api.Crv) {
		w := known(c)
		rnd := rand.New(rand.NewSource(14))
		for _, p := range somePoints(t, c, rnd) {
			r := limbs(new(big.Int).Mod(p.x, w.n))
			for what, q := range wrongPoints(c, p) {
				if !q.Inf && w.has(value(q.X), value(q.Y)) {
					t.Fatalf("%s of %s is a point", what, told(p.point()))
				}
				mustRefuse(t, "12.2: "+what, api.ErrPoint, api.SHA256, c, []byte("m"), r, api.Nat{5}, q)
			}
		}
	})
}

// r and s at the edges, with points that would make them or not.
func TestRecoverRanges(t *testing.T) {
	both(t, func(t *testing.T, c api.Crv) {
		w := known(c)
		rnd := rand.New(rand.NewSource(15))
		edges := []api.Nat{nil, {}, {0}, make(api.Nat, 300), limbs(w.n), padded(limbs(w.n), 2), limbs(plus(w.n, 1)), limbs(w.p), limbs(power(8 * w.size)), limbs(power(4096)), append(make(api.Nat, 128), 1), append(make(api.Nat, 5000), 7)}
		for i, p := range somePoints(t, c, rnd) {
			r := new(big.Int).Mod(p.x, w.n)
			for _, edge := range edges {
				mustRefuse(t, "12.2: r outside", api.ErrSignature, api.SHA256, c, []byte("m"), edge, api.Nat{5}, p.point())
				mustRefuse(t, "12.2: s outside", api.ErrSignature, api.SHA256, c, []byte("m"), limbs(r), edge, p.point())
				mustRefuse(t, "12.2: both outside", api.ErrSignature, api.SHA256, c, []byte("m"), edge, edge, p.point())
			}
			for _, other := range []*big.Int{plus(r, 1), plus(w.n, -1), drawn(rnd, c), new(big.Int).Sub(w.n, r)} {
				mustRefuse(t, "12.2: another r", api.ErrSignature, api.SHA256, c, []byte("m"), limbs(other), api.Nat{5}, p.point())
			}
			if i > 4 {
				continue
			}
			for _, k := range []int{1, 2, 40, 1 << 16} { // noughts on top do not count
				long := api.Point{X: padded(limbs(p.x), k), Y: padded(limbs(p.y), k+1)}
				if got := holdRecover(t, api.SHA512, c, []byte("m"), padded(limbs(r), k), padded(api.Nat{5}, k), long); got != api.OK {
					t.Fatalf("12.2: %d", got)
				}
			}
		}
	})
}

// What Recover answers is a key: curve takes its coordinates, in the curve's size of bytes.
func TestAnswersAreKeys(t *testing.T) {
	both(t, func(t *testing.T, c api.Crv) {
		w := known(c)
		rnd := rand.New(rand.NewSource(16))
		for _, p := range somePoints(t, c, rnd) {
			r := new(big.Int).Mod(p.x, w.n)
			x, y, code := ecdsa.Recover(api.SHA384, c, nil, limbs(r), limbs(drawn(rnd, c)), p.point())
			if _, wrong := curve.Decode(c, x, y); code != api.OK || wrong != api.OK || len(x) != w.size || len(y) != w.size {
				t.Fatalf("12.2: %x, %x, %d, %d", x, y, code, wrong)
			}
		}
	})
}
