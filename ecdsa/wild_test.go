package ecdsa_test

import (
	"math/big"
	"math/rand"
	"slices"
	"testing"

	"signet/api"
)

// P1: whatever is handed in.
func TestWild(t *testing.T) {
	t.Parallel()
	rnd := rand.New(rand.NewSource(41))
	allHashes := slices.Concat(hashes, hashes, hashes, noHashes[:3])
	allCurves := slices.Concat(curves, curves, curves, noCurves[:3])
	var numbers []*big.Int
	var points []api.Point
	for _, c := range curves {
		w := known(c)
		numbers = append(numbers, w.n, w.p, w.x, w.y, plus(w.n, -1), drawn(rnd, c), new(big.Int).Mod(w.x, w.n))
		points = append(points, w.base().point(), next(c, big.NewInt(1))[0].point(), next(c, w.n)[0].point(), at(w.y, w.x))
	}
	numbers = append(numbers, new(big.Int), big.NewInt(1), power(300), plus(power(256), -1), plus(power(384), -1))
	points = append(points, api.Point{}, api.Point{Inf: true}, api.Point{X: api.Nat{1}, Y: make(api.Nat, 99)})
	number := func() *big.Int { return numbers[rnd.Intn(len(numbers))] }
	blob := func(size int) []byte {
		switch k := number(); {
		case rnd.Intn(3) == 0:
			return drawnBytes(rnd, rnd.Intn(100))
		case k.BitLen() <= 8*size:
			return k.FillBytes(make([]byte, size))
		default:
			return k.Bytes()
		}
	}
	for range 400 {
		h, c := allHashes[rnd.Intn(len(allHashes))], allCurves[rnd.Intn(len(allCurves))]
		size := 32 + 16*rnd.Intn(2)
		holdVerify(t, "12.1", h, c, blob(size), blob(size), blob(size), slices.Concat(blob(size), blob(size)))
		p := points[rnd.Intn(len(points))]
		r := limbs(number())
		if w, ok := plainOf(c); ok && rnd.Intn(2) == 0 {
			r = limbs(new(big.Int).Mod(value(p.X), w.n))
		}
		holdRecover(t, h, c, blob(size), padded(r, rnd.Intn(3)), limbs(number()), p)
	}
}

// FuzzCalls: d and k make a key and a point of their own; the other bytes are taken as they come.
func FuzzCalls(f *testing.F) {
	for _, c := range curves {
		for _, h := range hashes {
			x, y, sig := signed(h, c, []byte("m"))
			f.Add(int(h), int(c), x, y, []byte("m"), sig, []byte{5}, []byte{7})
		}
		w := known(c)
		f.Add(1, int(c), w.x.Bytes(), w.y.Bytes(), []byte{}, joined(c, w.x, big.NewInt(1)), plus(w.n, -1).Bytes(), w.n.Bytes())
		f.Add(4, int(c), []byte{}, []byte{}, []byte{}, []byte{}, []byte{}, []byte{})
	}
	f.Fuzz(func(t *testing.T, hash, crv int, x, y, message, sig, d, k []byte) {
		if len(x) > 200 || len(y) > 200 || len(sig) > 400 || len(d) > 100 || len(k) > 100 {
			return
		}
		h, c := api.Hash(hash), api.Crv(crv)
		holdVerify(t, "12.1", h, c, x, y, message, sig)
		half := len(sig) / 2
		r, s := limbs(number(sig[:half])), limbs(number(sig[half:]))
		holdRecover(t, h, c, message, r, s, at(number(x), number(y)))
		w, ok := plainOf(c)
		if !ok || sum(h, nil) == nil {
			return
		}
		p := w.mul(plus(new(big.Int).Mod(number(k), plus(w.n, -1)), 1), w.base())
		made := limbs(new(big.Int).Mod(p.x, w.n))
		holdRecover(t, h, c, message, made, s, p.point())
		o := signerOf(c, plus(new(big.Int).Mod(number(d), plus(w.n, -1)), 1))
		if len(sig) == 2*w.size {
			holdVerify(t, "12.1", h, c, o.x, o.y, message, sig)
		}
		if one, two := o.sign(h, message, plus(new(big.Int).Mod(number(k), plus(w.n, -1)), 1)); one.Sign() > 0 && two.Sign() > 0 {
			mustVerify(t, "12.4", api.OK, h, c, o.x, o.y, message, joined(c, one, two))
			mustVerify(t, "12.5", api.OK, h, c, o.x, o.y, message, joined(c, one, new(big.Int).Sub(w.n, two)))
		}
	})
}
