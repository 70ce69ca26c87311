package spki_test

import (
	"bytes"
	"crypto/ed25519"
	"math/big"
	"math/rand"
	"slices"
	"strings"
	"testing"

	"signet/api"
	"signet/spki"
)

func put(b []byte, at int, x byte) []byte {
	b = slices.Clone(b)
	b[at] = x
	return b
}

func printed(t *testing.T, k api.Key) []byte {
	t.Helper()
	b, code := spki.Print(k)
	if code != api.OK {
		t.Fatalf("14.2: Print(%s): %d", told(k), int(code))
	}
	return b
}

// The rows of the chapter's table.
func TestExamples(t *testing.T) {
	g := baseKey(api.P256)
	ec := printed(t, g)
	if want := slices.Concat(unhex("30 59 30 13 06 07 2a 86 48 ce 3d 02 01 06 08 2a 86 48 ce 3d 03 01 07 03 42 00 04"), g.X, g.Y); len(ec) != 91 || !bytes.Equal(ec, want) {
		t.Errorf("example: Print of the base point: %x", ec)
	}
	okp := drawnOKP(rand.New(rand.NewSource(3)))
	ed := printed(t, okp)
	if want := slices.Concat(unhex("30 2a 30 05 06 03 2b 65 70 03 21 00"), okp.X); len(ed) != 44 || !bytes.Equal(ed, want) {
		t.Errorf("example: Print of an Ed25519 key: %x", ed)
	}
	for _, b := range [][]byte{ec, ed} {
		mustParse(t, "one byte more", api.ErrDer, append(slices.Clone(b), 0))
	}
	for x := range 255 {
		mustParse(t, "the BIT STRING's byte 00 another", api.ErrDer, put(ec, 25, byte(x+1)))
		mustParse(t, "the BIT STRING's byte 00 another", api.ErrDer, put(ed, 11, byte(x+1)))
	}
	mustParse(t, "NULL behind 1.3.101.112", api.ErrDer, info(unhex("30 07 06 03 2b 65 70 05 00"), okp.X))
	n, e := bytes.Repeat([]byte{0xff}, 256), []byte{1, 0, 1}
	mustParse(t, "an RSA key", api.OK, info(rsaAlgorithm, rsaBytes(n, e)))
	mustParse(t, "without NULL", api.ErrDer, info(unhex("30 0b 06 09 2a 86 48 86 f7 0d 01 01 01"), rsaBytes(n, e)))
	mustParse(t, "05 00 twice", api.ErrDer, info(unhex("30 0f 06 09 2a 86 48 86 f7 0d 01 01 01 05 00 05 00"), rsaBytes(n, e)))
	mustParse(t, "a 00 too many", api.ErrDer, info(rsaAlgorithm, element(0x30, element(2, []byte{0, 0}, n), integer(e))))
	mustParse(t, "without the 00", api.ErrDer, info(rsaAlgorithm, element(0x30, element(2, n), integer(e))))
	mustParse(t, "compressed", api.ErrDer, info(p256Algorithm, append([]byte{2}, g.X...)))
	mustParse(t, "a 02 ahead", api.ErrDer, put(ec, 26, 2))
	mustParse(t, "64 bytes under P-384", api.ErrDer, info(p384Algorithm, pointBytes(g.X, g.Y)))
	mustParse(t, "not on the curve", api.ErrKey, put(ec, 90, ec[90]^1))
	mustCheck(t, "E 1", api.ErrKey, rsaKey(n, []byte{1}))
	mustCheck(t, "X of one byte", api.ErrKey, api.Key{Kty: api.RSA, N: n, E: e, X: []byte{1}})
	mustCheck(t, "Kty 0", api.ErrKey, api.Key{})
	text, code := spki.Pem(g)
	mustUnpem(t, "a key", code, text)
	mustUnpem(t, "without the last byte 10", api.ErrPem, text[:len(text)-1])
	mustUnpem(t, "with byte 13", api.ErrPem, strings.Replace(text, "\n", "\r\n", 1))
	mustUnpem(t, "with byte 13", api.ErrPem, strings.ReplaceAll(text, "\n", "\r\n"))
	mustUnpem(t, "lines of 63 signs", api.ErrPem, pem(ec, 63))
	mustUnpem(t, "a blank behind", api.ErrPem, text+" ")
	if b, code := spki.Print(octKey(32)); b != nil || code != api.ErrKey {
		t.Errorf("14.2: Print of Oct: %x, %d", b, int(code))
	}
}

// The key that stands in RFC 8410 (10.1 and 10.3), and its text.
func TestStandard(t *testing.T) {
	seed := unhex("d4ee72dbf913584ad5b6d8f1f769f8ad3afe7c28cbf1d4fbe097a88f44755842")
	const text = "-----BEGIN PUBLIC KEY-----\nMCowBQYDK2VwAyEAGb9ECWmEzf6FQbrBZ9w7lshQhqowtrbLDFw4rXAxZuE=\n-----END PUBLIC KEY-----\n"
	want := okpKey(ed25519.NewKeyFromSeed(seed)[32:])
	mustUnpem(t, "RFC 8410", api.OK, text)
	if got, code := spki.Unpem(text); code != api.OK || !same(got, want) {
		t.Errorf("14.5: %s, %d", told(got), int(code))
	}
	if got, code := spki.Pem(want); code != api.OK || got != text {
		t.Errorf("14.4: %q, %d", got, int(code))
	}
}

func TestSecrets(t *testing.T) {
	for n := range 4200 {
		want := api.ErrKey
		if 32 <= n && n <= 4096 {
			want = api.OK
		}
		mustCheck(t, "a secret", want, octKey(n))
	}
	mustCheck(t, "a secret of bytes 0", api.OK, api.Key{Kty: api.Oct, Secret: make([]byte, 32)})
	for _, n := range []int{1 << 13, 1 << 16, 1 << 20} {
		mustCheck(t, "a long secret", api.ErrKey, octKey(n))
	}
}

// oneMore: the key with a part put where there is none.
func oneMore(k api.Key, part []byte) []api.Key {
	var out []api.Key
	for i := range 5 {
		o := k
		p := []*[]byte{&o.Secret, &o.N, &o.E, &o.X, &o.Y}[i]
		if len(*p) == 0 {
			*p = part
			out = append(out, o)
		}
	}
	return out
}

// Every kind with every type, every curve, and every part that it does not use.
func TestOtherParts(t *testing.T) {
	t.Parallel()
	for _, k := range append(some(), octKey(32), octKey(4096)) {
		mustCheck(t, "a key", api.OK, k)
		long := bytes.Repeat([]byte{1}, 32)
		for _, part := range [][]byte{{0}, {1}, {3}, long, k.X, k.Y, k.N, k.E, k.Secret} {
			for _, o := range oneMore(k, part) {
				want := api.ErrKey
				if len(part) == 0 {
					want = api.OK
				}
				mustCheck(t, "a part more", want, o)
			}
		}
		for _, o := range oneMore(k, []byte{}) {
			mustCheck(t, "an empty part that is not nil", api.OK, o)
		}
		for other := api.Kty(-2); other < 8; other++ {
			for crv := api.Crv(-2); crv < 8; crv++ {
				o := k
				o.Kty, o.Crv = other, crv
				want := api.ErrKey
				if other == k.Kty && crv == k.Crv {
					want = api.OK
				}
				mustCheck(t, "another type or curve", want, o)
			}
		}
	}
	for _, kty := range []api.Kty{-1 << 62, 1 << 32, 1<<32 + 1, 1<<32 + 4, 256, 257, 258, 1 << 62} {
		o := baseKey(api.P256)
		o.Kty = kty
		mustCheck(t, "a far type", api.ErrKey, o)
		o.Kty, o.Crv = api.EC, api.Crv(kty)
		mustCheck(t, "a far curve", api.ErrKey, o)
	}
	for kty := range api.Kty(5) {
		for crv := range api.Crv(4) {
			mustCheck(t, "no parts", api.ErrKey, api.Key{Kty: kty, Crv: crv})
			mustCheck(t, "empty parts", api.ErrKey, api.Key{Kty: kty, Crv: crv, Secret: []byte{}, N: []byte{}, E: []byte{}, X: []byte{}, Y: []byte{}})
		}
	}
}

func TestNumbersOfRSA(t *testing.T) {
	t.Parallel()
	least, most := power(2047), plus(power(4096), -1)
	three := []byte{3}
	for x, want := range map[*big.Int]api.Errno{
		plus(least, -1): api.ErrKey, least: api.ErrKey, plus(least, 1): api.OK, plus(least, 2): api.ErrKey, most: api.OK, plus(most, -1): api.ErrKey, plus(most, 1): api.ErrKey, plus(most, 2): api.ErrKey, big.NewInt(0): api.ErrKey, big.NewInt(1): api.ErrKey, big.NewInt(15): api.ErrKey, plus(power(65536), 1): api.ErrKey,
	} {
		mustCheck(t, "N", want, rsaKey(x.Bytes(), three))
		mustCheck(t, "N with a byte 0", api.ErrKey, rsaKey(append([]byte{0}, x.Bytes()...), three))
		mustParse(t, "N", want, info(rsaAlgorithm, rsaBytes(x.Bytes(), three)))
	}
	n := most.Bytes()
	for _, e := range exponents {
		mustCheck(t, "E", api.OK, rsaKey(n, e.Bytes()))
		mustCheck(t, "E with a byte 0", api.ErrKey, rsaKey(n, append([]byte{0}, e.Bytes()...)))
		mustCheck(t, "E even", api.ErrKey, rsaKey(n, plus(e, 1).Bytes()))
		mustParse(t, "E", api.OK, info(rsaAlgorithm, rsaBytes(n, e.Bytes())))
		mustParse(t, "E even", api.ErrKey, info(rsaAlgorithm, rsaBytes(n, plus(e, 1).Bytes())))
	}
	for _, e := range []*big.Int{big.NewInt(0), big.NewInt(1), big.NewInt(2), power(32), plus(power(32), 1), plus(power(32), 3), plus(power(64), 3), plus(power(2048), 3)} {
		mustCheck(t, "E", api.ErrKey, rsaKey(n, e.Bytes()))
		mustParse(t, "E", api.ErrKey, info(rsaAlgorithm, rsaBytes(n, e.Bytes())))
	}
}

// Coordinates with another length, or with the prime more, and points that are none.
func TestPoints(t *testing.T) {
	t.Parallel()
	for _, c := range []api.Crv{api.P256, api.P384} {
		p, size := params(c).P, params(c).BitSize/8
		algorithm := map[api.Crv][]byte{api.P256: p256Algorithm, api.P384: p384Algorithm}[c]
		for _, k := range append(edges(c), baseKey(c)) {
			zeroAhead := func(b []byte) []byte { return append([]byte{0}, b...) }
			for i, xy := range [][2][]byte{{k.X[1:], k.Y}, {k.X, k.Y[1:]}, {zeroAhead(k.X), k.Y}, {k.X, zeroAhead(k.Y)}, {k.X[:size-1], append(k.X[size-1:], k.Y...)}, {slices.Concat(k.X, k.Y[:1]), k.Y[1:]}, {nil, slices.Concat(k.X, k.Y)}, {slices.Concat(k.X, k.Y), nil}, {k.X, nil}, {nil, k.Y}} {
				mustCheck(t, "another length", api.ErrKey, api.Key{Kty: api.EC, Crv: c, X: xy[0], Y: xy[1]})
				if i < 4 {
					mustParse(t, "another length", api.ErrDer, info(algorithm, pointBytes(xy[0], xy[1])))
				}
			}
			for _, xy := range [][2]*big.Int{{number(k.Y), number(k.X)}, {plus(number(k.X), 1), plus(number(k.Y), 1)}, {new(big.Int).Add(number(k.X), p), number(k.Y)}, {number(k.X), new(big.Int).Add(number(k.Y), p)}, {new(big.Int), new(big.Int)}, {p, p}, {number(k.X), new(big.Int)}, {plus(power(uint(8*size)), -1), number(k.Y)}} {
				if xy[0].BitLen() <= 8*size && xy[1].BitLen() <= 8*size {
					o := ecKey(c, xy[0], xy[1])
					mustCheck(t, "no point", api.ErrKey, o)
					mustParse(t, "no point", api.ErrKey, info(algorithm, pointBytes(o.X, o.Y)))
				}
			}
		}
	}
}

func TestPointsOfEd25519(t *testing.T) {
	t.Parallel()
	none := [][]byte{lowBytes(big.NewInt(1), true), lowBytes(plus(edPrime, -1), true), bytes.Repeat([]byte{0xff}, 32)}
	for y := edPrime; y.BitLen() <= 255; y = plus(y, 1) {
		none = append(none, lowBytes(y, false), lowBytes(y, true))
	}
	r := rand.New(rand.NewSource(4))
	for len(none) < 100 {
		if b := drawnBytes(r, 32); !isEdPoint(b) {
			none = append(none, b)
		}
	}
	for _, b := range none {
		mustCheck(t, "no point", api.ErrKey, okpKey(b))
		mustParse(t, "no point", api.ErrKey, info(edAlgorithm, b))
		mustUnpem(t, "no point", api.ErrKey, pem(info(edAlgorithm, b), 64))
	}
	for n := range 70 {
		b := make([]byte, n) // 32 bytes 0 are a point
		check, parse := api.ErrKey, api.ErrDer
		if n == 32 {
			check, parse = api.OK, api.OK
		}
		mustCheck(t, "so many bytes", check, okpKey(b))
		mustParse(t, "so many bytes", parse, info(edAlgorithm, b))
	}
}
