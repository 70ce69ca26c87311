package jws_test

import (
	"math/rand"
	"testing"

	"signet/api"
)

// wildPart: of a length that some part has, or nearly; of any bytes.
func wildPart(r *rand.Rand) []byte {
	if r.Intn(3) == 0 {
		return nil
	}
	b := make([]byte, pick(r, []int{0, 1, 3, 31, 32, 33, 47, 48, 49, 64, 96, 256, 257}))
	switch r.Intn(3) {
	case 0:
		r.Read(b)
	case 1:
		for i := range b {
			b[i] = 0xff
		}
	}
	return b
}

// wildKey: a key of any parts, or a right one with one part another.
func wildKey(r *rand.Rand) api.Key {
	k := api.Key{Kty: api.Kty(r.Intn(6)), Crv: api.Crv(r.Intn(5)), Secret: wildPart(r), N: wildPart(r), E: wildPart(r), X: wildPart(r), Y: wildPart(r)}
	if r.Intn(2) == 0 {
		return k
	}
	right := copied(pick(r, signers()).key)
	switch r.Intn(8) {
	case 0:
		right.Kty = k.Kty
	case 1:
		right.Crv = k.Crv
	case 2:
		right.Secret = k.Secret
	case 3:
		right.N = k.N
	case 4:
		right.E = k.E
	case 5:
		right.X = k.X
	case 6:
		right.Y = k.Y
	}
	return right
}

// P1: keys, algorithms and signatures of any kind.
func TestWild(t *testing.T) {
	t.Parallel()
	r := rand.New(rand.NewSource(8))
	met := map[api.Errno]int{}
	for range 1500 {
		a, k, sig := pick(r, allAlgs()), wildKey(r), wildPart(r)
		holdFits(t, a, k)
		met[holdCheck(t, a, k, drawnText(r), sig)]++
		holdTag(t, a, k.Secret, drawnText(r))
	}
	for _, code := range []api.Errno{api.ErrAlg, api.ErrBinding, api.ErrKey, api.ErrSignature} {
		if met[code] < 20 {
			t.Fatalf("only %d of %d", met[code], int(code))
		}
	}
	holdCheck(t, 0, api.Key{}, "", nil)
	holdTag(t, 0, nil, "")
	holdFits(t, 0, api.Key{})
}

// Texts of any bytes, dots among them.
func TestWildTokens(t *testing.T) {
	t.Parallel()
	r := rand.New(rand.NewSource(9))
	for range 40000 {
		b := make([]byte, r.Intn(24))
		for i := range b {
			b[i] = pick(r, []byte("..AQgZ_-wE=+\x00\xff"))
		}
		holdDecode(t, string(b))
	}
}

func FuzzCalls(f *testing.F) {
	r := rand.New(rand.NewSource(10))
	for _, c := range rows {
		own := signerFor(c.alg)
		token, _ := wantCompact(drawnBytes(r, 20), drawnBytes(r, 20), drawnBytes(r, 20))
		f.Add(token, int(c.alg), int(c.kty), int(c.crv), own.key.Secret, own.key.N, own.key.E, own.key.X, own.key.Y, own.sign(c.alg, token))
	}
	f.Fuzz(func(t *testing.T, text string, alg, kty, crv int, secret, n, e, x, y, sig []byte) {
		holdDecode(t, text)
		holdCompact(t, secret, n, sig)
		k := api.Key{Kty: api.Kty(kty), Crv: api.Crv(crv), Secret: secret, N: n, E: e, X: x, Y: y}
		holdFits(t, api.Alg(alg), k)
		holdCheck(t, api.Alg(alg), k, text, sig)
		holdTag(t, api.Alg(alg), secret, text)
	})
}
