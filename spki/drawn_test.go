package spki_test

import (
	"bytes"
	"crypto/elliptic"
	"math/big"
	"math/rand"
	"slices"
	"testing"

	"signet/api"
)

func drawnBytes(r *rand.Rand, n int) []byte {
	b := make([]byte, n)
	r.Read(b)
	return b
}

// drawnOdd: an odd number of just so many binary digits, as bytes.
func drawnOdd(r *rand.Rand, digits int) []byte {
	x := new(big.Int).Rand(r, power(uint(digits)))
	x.SetBit(x, digits-1, 1)
	return x.SetBit(x, 0, 1).Bytes()
}

func rsaKey(n, e []byte) api.Key { return api.Key{Kty: api.RSA, N: n, E: e} }

func drawnRSA(r *rand.Rand, digits, ofE int) api.Key {
	return rsaKey(drawnOdd(r, digits), drawnOdd(r, ofE))
}

// ecKey: of coordinates, in as many bytes as they must have.
func ecKey(c api.Crv, x, y *big.Int) api.Key {
	size := params(c).BitSize / 8
	return api.Key{Kty: api.EC, Crv: c, X: x.FillBytes(make([]byte, size)), Y: y.FillBytes(make([]byte, size))}
}

func baseKey(c api.Crv) api.Key { return ecKey(c, params(c).Gx, params(c).Gy) }

func drawnEC(r *rand.Rand, c api.Crv) api.Key {
	for {
		if k, ok := beside(c, new(big.Int).Rand(r, params(c).P)); ok {
			return k[r.Intn(2)]
		}
	}
}

// beside: the two points of that x, a number below the prime.
func beside(c api.Crv, x *big.Int) (two [2]api.Key, ok bool) {
	p := params(c).P
	y := new(big.Int).ModSqrt(cubed(c, x), p)
	if y == nil || y.Sign() == 0 {
		return two, false
	}
	return [2]api.Key{ecKey(c, x, y), ecKey(c, x, new(big.Int).Sub(p, y))}, true
}

// edges: points of the least and of the greatest x.
func edges(c api.Crv) []api.Key {
	var out []api.Key
	for d := range int64(12) {
		for _, x := range []*big.Int{big.NewInt(d), plus(params(c).P, -1-d)} {
			if two, ok := beside(c, x); ok {
				out = append(out, two[:]...)
			}
		}
	}
	return out
}

func okpKey(x []byte) api.Key { return api.Key{Kty: api.OKP, Crv: api.Ed25519, X: x} }

// lowBytes: y, the lowest byte first, with the bit for an odd x or without it.
func lowBytes(y *big.Int, odd bool) []byte {
	b := y.FillBytes(make([]byte, 32))
	slices.Reverse(b)
	if odd {
		b[31] |= 0x80
	}
	return b
}

func drawnOKP(r *rand.Rand) api.Key {
	for {
		b := drawnBytes(r, 32)
		if isEdPoint(b) {
			return okpKey(b)
		}
	}
}

// edEdges: the neutral point, the one of order 2, those of y = 0, and others of the least and the greatest y.
func edEdges() []api.Key {
	var out []api.Key
	for d := range int64(12) {
		for _, y := range []*big.Int{big.NewInt(d), plus(edPrime, -1-d)} {
			for _, odd := range []bool{false, true} {
				if b := lowBytes(y, odd); isEdPoint(b) {
					out = append(out, okpKey(b))
				}
			}
		}
	}
	return out
}

func octKey(n int) api.Key { return api.Key{Kty: api.Oct, Secret: bytes.Repeat([]byte{7}, n)} }

var exponents = []*big.Int{big.NewInt(3), big.NewInt(5), big.NewInt(127), big.NewInt(129), big.NewInt(255), big.NewInt(257), big.NewInt(65537), plus(power(31), -1), plus(power(31), 1), plus(power(32), -1)}

// some: right keys of every kind that has an element, a few of each.
func some() []api.Key {
	r := rand.New(rand.NewSource(14))
	out := []api.Key{baseKey(api.P256), baseKey(api.P384), drawnEC(r, api.P256), drawnEC(r, api.P384), drawnOKP(r), drawnOKP(r)}
	for i, digits := range []int{2048, 2049, 3071, 4096} {
		out = append(out, drawnRSA(r, digits, 2+9*i))
	}
	out = append(out, edges(api.P256)[0], edges(api.P384)[0], edEdges()[0], edEdges()[3])
	for _, e := range exponents {
		out = append(out, rsaKey(drawnOdd(r, 2056), e.Bytes()))
	}
	return out
}

// Drawn keys of every kind, there and back, by both ways.
func TestDrawnKeys(t *testing.T) {
	t.Parallel()
	r := rand.New(rand.NewSource(1))
	for _, k := range some() {
		mustCheck(t, "some", api.OK, k)
	}
	for range 150 {
		mustCheck(t, "P-256", api.OK, drawnEC(r, api.P256))
		mustCheck(t, "P-384", api.OK, drawnEC(r, api.P384))
		mustCheck(t, "Ed25519", api.OK, drawnOKP(r))
		mustCheck(t, "RSA", api.OK, drawnRSA(r, 2048+r.Intn(2049), 2+r.Intn(31)))
		mustCheck(t, "Oct", api.OK, octKey(32+r.Intn(4065)))
	}
	for _, c := range []api.Crv{api.P256, api.P384} {
		for _, k := range edges(c) {
			mustCheck(t, "an edge of a curve", api.OK, k)
		}
	}
	for _, k := range edEdges() {
		mustCheck(t, "an edge of Ed25519", api.OK, k)
	}
}

// Every length of N, so that every length of a last line and every form of the lengths comes.
func TestEveryLength(t *testing.T) {
	t.Parallel()
	r := rand.New(rand.NewSource(2))
	for digits := 2040; digits <= 4104; digits++ {
		want := api.OK
		if digits < 2048 || digits > 4096 {
			want = api.ErrKey
		}
		k := drawnRSA(r, digits, 2+digits%31)
		mustCheck(t, "RSA", want, k)
		mustParse(t, "RSA", want, info(rsaAlgorithm, rsaBytes(k.N, k.E)))
		mustUnpem(t, "RSA", want, pem(info(rsaAlgorithm, rsaBytes(k.N, k.E)), 64))
	}
}

// Multiples of the base points, as the library reckons them.
func TestMultiples(t *testing.T) {
	t.Parallel()
	for c, g := range map[api.Crv]elliptic.Curve{api.P256: elliptic.P256(), api.P384: elliptic.P384()} {
		for d := range int64(40) {
			for _, k := range []*big.Int{big.NewInt(1 + d), plus(params(c).N, -1-d)} {
				x, y := g.ScalarBaseMult(k.Bytes())
				mustCheck(t, "a multiple", api.OK, ecKey(c, x, y))
			}
		}
	}
}
