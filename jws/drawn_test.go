package jws_test

import (
	"bytes"
	stdrand "crypto/rand"
	"crypto/rsa"
	"math/big"
	"math/rand"
	"slices"
	"strings"
	"sync"
	"testing"

	"signet/api"
	"signet/curve"
	"signet/ecdsa"
	"signet/jws"
	"signet/nat"
	"signet/pss"
	"signet/rsa1"
	"signet/sha"
)

func pick[T any](r *rand.Rand, of []T) T { return of[r.Intn(len(of))] }

func drawnBytes(r *rand.Rand, n int) []byte {
	b := make([]byte, n)
	r.Read(b)
	return b
}

// drawnText: signs and dots, as they stand ahead of a token's second dot, or any bytes.
func drawnText(r *rand.Rand) string {
	if r.Intn(3) == 0 {
		return string(drawnBytes(r, r.Intn(40)))
	}
	token, _ := jws.Compact(drawnBytes(r, r.Intn(60)), drawnBytes(r, r.Intn(200)), nil)
	return strings.TrimSuffix(token, ".")
}

// Three drawn parts there and back.
func TestDrawnParts(t *testing.T) {
	t.Parallel()
	r := rand.New(rand.NewSource(2))
	for range 3000 {
		mustCompact(t, api.OK, drawnBytes(r, r.Intn(50)), drawnBytes(r, r.Intn(200)), drawnBytes(r, r.Intn(100)))
	}
	for range 60 {
		holdCompact(t, drawnBytes(r, r.Intn(17000)), drawnBytes(r, r.Intn(17000)), drawnBytes(r, r.Intn(17000)))
	}
}

// A token with one byte put in, taken away or changed: never the same three parts again.
func TestSpoiltTokens(t *testing.T) {
	t.Parallel()
	r := rand.New(rand.NewSource(3))
	for range 20000 {
		was := [3][]byte{drawnBytes(r, r.Intn(6)), drawnBytes(r, r.Intn(6)), drawnBytes(r, r.Intn(6))}
		token, _ := holdCompact(t, was[0], was[1], was[2])
		b := []byte(token)
		c := pick(r, []byte("AQZaz09-_.=+/ \n\r\x00\xff"))
		switch at := r.Intn(len(b)); r.Intn(3) {
		case 0:
			b = slices.Insert(b, at, c)
		case 1:
			b = slices.Delete(b, at, at+1)
		default:
			b[at] = c
		}
		parts, code := holdDecode(t, string(b))
		if code == api.OK && string(b) != token && slices.EqualFunc(parts[:], was[:], bytes.Equal) {
			t.Fatalf("18.7: %q and %q decode to the same", token, b)
		}
	}
}

// rsaWitness: T4: a key of so many bits, with the exponent 3, under which a drawn number signs the text: n = s^3 less the encoding.
func rsaWitness(r *rand.Rand, a api.Alg, bits int, text string) (api.Key, []byte) {
	c, _ := rowOf(a)
	for {
		s := new(big.Int).SetBytes(drawnBytes(r, bits/24+1))
		s.Mod(s, new(big.Int).Lsh(big.NewInt(1), uint(bits)/3+1))
		em, _ := rsa1.Encode(c.hash, []byte(text), (bits+7)/8)
		if a >= api.PS256 {
			em, _ = pss.Encode(c.hash, sha.Sum(c.hash, []byte(text)), drawnBytes(r, c.size), bits-1)
		}
		n := new(big.Int).Exp(s, big.NewInt(3), nil)
		n.Sub(n, number(em))
		if n.Sign() > 0 && n.BitLen() == bits && n.Bit(0) == 1 && number(em).Cmp(n) < 0 {
			return api.Key{Kty: api.RSA, N: n.Bytes(), E: []byte{3}}, s.FillBytes(make([]byte, (bits+7)/8))
		}
	}
}

func TestRSAWitnesses(t *testing.T) {
	t.Parallel()
	r := rand.New(rand.NewSource(4))
	for _, c := range rows[3:9] {
		for _, bits := range []int{2048, 2049, 2050, 2055, 2056, 2057, 3000, 4095, 4096} {
			text := drawnText(r)
			k, sig := rsaWitness(r, c.alg, bits, text)
			mustCheck(t, "a drawn key", api.OK, c.alg, k, text, sig)
			mustCheck(t, "a drawn key, another text", api.ErrSignature, c.alg, k, text+"A", sig)
			for _, other := range rows[3:9] {
				if other != c {
					mustCheck(t, "a drawn key, another algorithm", api.ErrSignature, other.alg, k, text, sig)
				}
			}
			mustCheck(t, "a byte 0 ahead of the signature", api.ErrSignature, c.alg, k, text, append([]byte{0}, sig...))
			// One number, two spellings: sig and sig + n, where that fits into the bytes.
			if sum := new(big.Int).Add(number(sig), number(k.N)); len(sum.Bytes()) <= len(sig) {
				mustCheck(t, "the signature and n", api.ErrSignature, c.alg, k, text, sum.FillBytes(make([]byte, len(sig))))
			}
		}
		k, sig := rsaWitness(r, c.alg, 2047, signed)
		mustCheck(t, "2047 bits", api.ErrKey, c.alg, k, signed, sig)
		k, sig = rsaWitness(r, c.alg, 4097, signed)
		mustCheck(t, "4097 bits", api.ErrKey, c.alg, k, signed, sig)
	}
}

// ecWitness: T4: a key under which drawn r and s sign the text.
func ecWitness(r *rand.Rand, a api.Alg, text string) (api.Key, []byte) {
	c, _ := rowOf(a)
	n := number(nat.Bytes(curve.Order(c.crv)))
	point, _ := curve.Mul(c.crv, nat.FromBytes(drawnBytes(r, c.size)), curve.Base(c.crv))
	first := new(big.Int).Mod(number(nat.Bytes(point.X)), n).Bytes()
	second := new(big.Int).Mod(number(drawnBytes(r, c.size)), n).Bytes()
	x, y, _ := ecdsa.Recover(c.hash, c.crv, []byte(text), nat.FromBytes(first), nat.FromBytes(second), point)
	sig := append(number(first).FillBytes(make([]byte, c.size)), number(second).FillBytes(make([]byte, c.size))...)
	return api.Key{Kty: api.EC, Crv: c.crv, X: x, Y: y}, sig
}

func TestECWitnesses(t *testing.T) {
	t.Parallel()
	r := rand.New(rand.NewSource(5))
	for _, c := range rows[9:11] {
		for range 8 {
			text := drawnText(r)
			k, sig := ecWitness(r, c.alg, text)
			mustCheck(t, "a drawn key", api.OK, c.alg, k, text, sig)
			mustCheck(t, "a drawn key, another text", api.ErrSignature, c.alg, k, text+"A", sig)
			mustCheck(t, "a drawn key, r and s the other way round", api.ErrSignature, c.alg, k, text, slices.Concat(sig[c.size:], sig[:c.size]))
			for _, other := range rows {
				if other != c {
					mustCheck(t, "a drawn key, another algorithm", api.ErrBinding, other.alg, k, text, sig)
				}
			}
		}
	}
}

// Drawn secrets and texts.
func TestDrawnTags(t *testing.T) {
	t.Parallel()
	r := rand.New(rand.NewSource(6))
	for range 2000 {
		c := rows[r.Intn(3)]
		secret, text := drawnBytes(r, c.size+r.Intn(150)), drawnText(r)
		mustTag(t, api.OK, c.alg, secret, text)
		k := api.Key{Kty: api.Oct, Secret: secret}
		tag, _ := jws.Tag(c.alg, secret, text)
		mustCheck(t, "a tag changed", api.ErrSignature, c.alg, k, text, changed(tag, r.Intn(len(tag)), byte(1+r.Intn(255))))
		mustCheck(t, "another text", api.ErrSignature, c.alg, k, text+"A", tag)
		if !slices.Equal(tag, octTag(c.alg, secret, text)) {
			t.Fatalf("18.6: Tag(%d, %x, %q) = %x", int(c.alg), secret, text, tag)
		}
	}
}

// octTag: HMAC by its definition, over Go's own sums.
func octTag(a api.Alg, secret []byte, text string) []byte {
	h := theirHash(a)
	block := make([]byte, h.New().BlockSize())
	if len(secret) > len(block) {
		secret = theirSum(a, string(secret))
	}
	copy(block, secret)
	inner, outer := bytes.Clone(block), bytes.Clone(block)
	for i := range block {
		inner[i] ^= 0x36
		outer[i] ^= 0x5c
	}
	return theirSum(a, string(outer)+string(theirSum(a, string(inner)+text)))
}

var saltingKey = sync.OnceValue(func() *rsa.PrivateKey { return must(rsa.GenerateKey(stdrand.Reader, 2048)) })

// saltedSignature: a signature by RSASSA-PSS with a salt of any length.
func saltedSignature(a api.Alg, text string, length int) (api.Key, []byte) {
	k := saltingKey()
	sig := must(rsa.SignPSS(stdrand.Reader, k, theirHash(a), theirSum(a, text), &rsa.PSSOptions{SaltLength: length}))
	return api.Key{Kty: api.RSA, N: k.N.Bytes(), E: []byte{1, 0, 1}}, sig
}
