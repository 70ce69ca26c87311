package curve_test

import (
	"crypto/ecdh"
	"crypto/elliptic"
	"math/big"
	"math/rand"
	"testing"

	"signet/api"
	"signet/curve"
)

func libraryOf(c api.Crv) (elliptic.Curve, ecdh.Curve) {
	if c == api.P256 {
		return elliptic.P256(), ecdh.P256()
	}
	return elliptic.P384(), ecdh.P384()
}

// fromLibrary: there O is the pair of noughts.
func fromLibrary(x, y *big.Int) api.Point {
	if x.Sign() == 0 && y.Sign() == 0 {
		return infinite()
	}
	return at(x, y)
}

func TestLibrarySums(t *testing.T) {
	both(t, func(t *testing.T, c api.Crv) {
		l, _ := libraryOf(c)
		r := rand.New(rand.NewSource(31))
		for range 40 {
			k, m := drawnScalar(r, 32), drawnScalar(r, 32)
			x, y := l.ScalarBaseMult(value(k).Bytes())
			p := fromLibrary(x, y)
			got, code := curve.Mul(c, k, curve.Base(c))
			mustBe(t, "11.5", "Mul("+told(k)+", G)", got, code, p, api.OK)
			u, v := l.ScalarMult(x, y, value(m).Bytes())
			got, code = curve.Mul(c, m, p)
			mustBe(t, "11.5", "Mul("+told(m, p)+")", got, code, fromLibrary(u, v), api.OK)
			sx, sy := l.Add(x, y, u, v)
			got, code = curve.Add(c, p, fromLibrary(u, v))
			mustBe(t, "11.4", "Add("+told(p, fromLibrary(u, v))+")", got, code, fromLibrary(sx, sy), api.OK)
			got, code = curve.Joint(c, k, m, p)
			mustBe(t, "11.6", "Joint("+told(k, m, p)+")", got, code, fromLibrary(sx, sy), api.OK)
			dx, dy := l.Double(x, y)
			got, code = curve.Add(c, p, p)
			mustBe(t, "11.4", "Add("+told(p, p)+")", got, code, fromLibrary(dx, dy), api.OK)
		}
	})
}

// What the library takes as a public key is what Decode takes.
func TestLibraryKeys(t *testing.T) {
	both(t, func(t *testing.T, c api.Crv) {
		_, l := libraryOf(c)
		r := rand.New(rand.NewSource(32))
		taken := 0
		for _, p := range append(points(t, c), strangers(t, c)...) {
			if p.Inf {
				continue
			}
			for _, pair := range [][2][]byte{{wide(c, value(p.X)), wide(c, value(p.Y))}, {drawnBytes(r, known(c).size), wide(c, value(p.Y))}} {
				if len(pair[0]) != len(pair[1]) { // the library cuts a key in the middle
					continue
				}
				_, err := l.NewPublicKey(append(append([]byte{4}, pair[0]...), pair[1]...))
				_, code := curve.Decode(c, pair[0], pair[1])
				if (err == nil) != (code == api.OK) {
					t.Fatalf("11.7: Decode(%s) says %d, the library %v", told(c, pair[0], pair[1]), code, err)
				}
				if err == nil {
					taken++
				}
			}
		}
		if taken < 10 {
			t.Errorf("the library took %d keys", taken)
		}
	})
}

// Multiples of G that are often printed for P-256.
func TestPrinted(t *testing.T) {
	for _, row := range []struct{ k, x, y string }{
		{"3", "5ecbe4d1a6330a44c8f7ef951d4bf165e6c6b721efada985fb41661bc6e7fd6c", "8734640c4998ff7e374b06ce1a64a2ecd82ab036384fb83d9a79b127a27d5032"},
		{"4", "e2534a3532d08fbba02dde659ee62bd0031fe2db785596ef509302446b030852", "e0f1575a4c633cc719dfee5fda862d764efc96c3f30ee0055c42c23f184ed8c6"},
		{"5", "51590b7a515140d2d784c85608668fdfef8c82fd1f5be52421554a0dc3d033ed", "e0c17da8904a727d8ae1bf36bf8a79260d012f00d4d80888d1d0bb44fda16da4"},
		{"18ebbb95eed0e13", "339150844ec15234807fe862a86be77977dbfb3ae3d96f4c22795513aeaab82f", "b1c14ddfdc8ec1b2583f51e85a5eb3a155840f2034730e9b5ada38b674336a21"},
	} {
		got, code := curve.Mul(api.P256, limbs(hexed(row.k)), curve.Base(api.P256))
		mustBe(t, "11.5", row.k+" times G", got, code, at(hexed(row.x), hexed(row.y)), api.OK)
	}
}
