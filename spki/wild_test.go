package spki_test

import (
	"math/rand"
	"slices"
	"strings"
	"testing"

	"signet/api"
)

// drawnElement: bytes of elements, most of them such as stand in keys.
func drawnElement(r *rand.Rand, depth int) []byte {
	pieces := [][]byte{nullElement, rsaOid, ecOid, p256Oid, p384Oid, edOid, rsaAlgorithm, p256Algorithm, p384Algorithm, edAlgorithm, integer([]byte{3}), unhex("02 01 80")}
	switch n := r.Intn(8); {
	case n < 3 && depth > 0:
		var inside []byte
		for range r.Intn(4) {
			inside = append(inside, drawnElement(r, depth-1)...)
		}
		return element(0x30, inside)
	case n == 3 && depth > 0:
		return bits(drawnElement(r, depth-1))
	case n == 4:
		return bits(drawnBytes(r, []int{0, 1, 32, 64, 65, 97}[r.Intn(6)]))
	case n == 5:
		return integer(drawnBytes(r, []int{0, 1, 3, 4, 5, 255, 256, 257, 512, 513}[r.Intn(10)]))
	default:
		return pieces[r.Intn(len(pieces))]
	}
}

// P1: whatever is handed in.
func TestWild(t *testing.T) {
	t.Parallel()
	r := rand.New(rand.NewSource(12))
	for range 20000 {
		b := drawnElement(r, 4)
		holdBytes(t, b)
		holdBytes(t, element(0x30, drawnElement(r, 0), bits(b)))
		holdText(t, pem(b, []int{64, 64, 64, 63, 76}[r.Intn(5)]))
		holdBytes(t, drawnBytes(r, r.Intn(100)))
		holdText(t, string(drawnBytes(r, r.Intn(100))))
		holdText(t, framed(strings.Repeat("A", r.Intn(140))+"\n"))
	}
	blob := func() []byte {
		if r.Intn(3) > 0 {
			return nil
		}
		return drawnBytes(r, []int{0, 1, 3, 4, 31, 32, 33, 47, 48, 49, 255, 256, 257, 512, 513, 4096, 4097}[r.Intn(17)])
	}
	for range 20000 {
		holdKey(t, api.Key{Kty: api.Kty(r.Intn(7) - 1), Crv: api.Crv(r.Intn(6) - 1), Secret: blob(), N: blob(), E: blob(), X: blob(), Y: blob()})
	}
}

// Keys of which each part is that of one of two right keys.
func TestMixedKeys(t *testing.T) {
	t.Parallel()
	keys := append(some()[:10], octKey(40))
	for _, a := range keys {
		for _, b := range keys {
			for mask := range 128 {
				k := a
				for i, take := range []func(){func() { k.Kty = b.Kty }, func() { k.Crv = b.Crv }, func() { k.Secret = b.Secret }, func() { k.N = b.N }, func() { k.E = b.E }, func() { k.X = b.X }, func() { k.Y = b.Y }} {
					if mask>>i&1 == 1 {
						take()
					}
				}
				if want := wantCheck(k); (mask == 0 || mask == 127) && want != api.OK {
					t.Fatalf("%s: %d", told(k), int(want))
				}
				holdKey(t, k)
			}
		}
	}
}

// FuzzCalls: bytes and texts as they come, and as what stands in an element or a text.
func FuzzCalls(f *testing.F) {
	for _, k := range kindRows() {
		whole := info(k.algorithm, k.key)
		f.Add(whole, pem(whole, 64), k.algorithm, k.key, uint8(2), uint8(1))
	}
	f.Add([]byte{}, "", []byte{}, []byte{}, uint8(0), uint8(0))
	f.Add(nested(40, nil), opensslExplicit, nested(33, nil), integer([]byte{9}), uint8(4), uint8(3))
	f.Fuzz(func(t *testing.T, b []byte, text string, algorithm, key []byte, kty, crv uint8) {
		holdBytes(t, b)
		holdText(t, text)
		holdText(t, framed(text))
		holdText(t, pem(b, 64))
		for _, known := range [][]byte{algorithm, rsaAlgorithm, p256Algorithm, p384Algorithm, edAlgorithm} {
			holdBytes(t, info(known, key))
			holdText(t, pem(info(known, key), 64))
		}
		holdBytes(t, info(rsaAlgorithm, rsaBytes(key, algorithm)))
		half := len(key) / 2
		k := api.Key{Kty: api.Kty(kty), Crv: api.Crv(crv)}
		for i, part := range []*[]byte{&k.Secret, &k.N, &k.E, &k.X, &k.Y} {
			if int(kty)>>(3+i)&1 == 1 {
				*part = slices.Clone(key[:half])
			}
		}
		holdKey(t, k)
		holdKey(t, rsaKey(key, algorithm))
		holdKey(t, okpKey(key))
		for _, c := range []api.Crv{api.P256, api.P384} {
			holdKey(t, api.Key{Kty: api.EC, Crv: c, X: key[:half], Y: key[half:]})
		}
	})
}
