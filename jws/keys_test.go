package jws_test

import (
	"bytes"
	"crypto"
	stdecdsa "crypto/ecdsa"
	"crypto/ed25519"
	"crypto/elliptic"
	stdhmac "crypto/hmac"
	"crypto/rand"
	"crypto/rsa"
	_ "crypto/sha256"
	_ "crypto/sha512"
	"math/big"
	"sync"

	"signet/api"
)

// signer: a key, and who signs with it, by Go's own library.
type signer struct {
	key  api.Key
	sign func(a api.Alg, text string) []byte
}

// theirHash: that of an algorithm.
func theirHash(a api.Alg) crypto.Hash {
	c, _ := rowOf(a)
	return map[api.Hash]crypto.Hash{api.SHA256: crypto.SHA256, api.SHA384: crypto.SHA384, api.SHA512: crypto.SHA512}[c.hash]
}

func theirSum(a api.Alg, text string) []byte {
	s := theirHash(a).New()
	s.Write([]byte(text))
	return s.Sum(nil)
}

func must[T any](x T, err error) T {
	if err != nil {
		panic(err)
	}
	return x
}

func octKey(n int) api.Key {
	secret := make([]byte, n)
	for i := range secret {
		secret[i] = byte(7*i + n)
	}
	return api.Key{Kty: api.Oct, Secret: secret}
}

func octSigner(n int) signer {
	k := octKey(n)
	return signer{k, func(a api.Alg, text string) []byte {
		m := stdhmac.New(theirHash(a).New, k.Secret)
		m.Write([]byte(text))
		return m.Sum(nil)
	}}
}

func rsaSigner(bits int) signer {
	k := must(rsa.GenerateKey(rand.Reader, bits))
	return signer{api.Key{Kty: api.RSA, N: k.N.Bytes(), E: big.NewInt(int64(k.E)).Bytes()}, func(a api.Alg, text string) []byte {
		if a >= api.PS256 {
			return must(rsa.SignPSS(rand.Reader, k, theirHash(a), theirSum(a, text), &rsa.PSSOptions{SaltLength: rsa.PSSSaltLengthEqualsHash}))
		}
		return must(rsa.SignPKCS1v15(nil, k, theirHash(a), theirSum(a, text)))
	}}
}

func ecSigner(crv api.Crv) signer {
	c, size := elliptic.P256(), 32
	if crv == api.P384 {
		c, size = elliptic.P384(), 48
	}
	k := must(stdecdsa.GenerateKey(c, rand.Reader))
	pub := must(k.PublicKey.Bytes())
	return signer{api.Key{Kty: api.EC, Crv: crv, X: pub[1 : 1+size], Y: pub[1+size:]}, func(a api.Alg, text string) []byte {
		r, s, err := stdecdsa.Sign(rand.Reader, k, theirSum(a, text))
		must(0, err)
		return append(r.FillBytes(make([]byte, size)), s.FillBytes(make([]byte, size))...)
	}}
}

func edSigner(seed byte) signer {
	k := ed25519.NewKeyFromSeed(bytes.Repeat([]byte{seed}, 32))
	return signer{api.Key{Kty: api.OKP, Crv: api.Ed25519, X: k[32:]}, func(a api.Alg, text string) []byte { return ed25519.Sign(k, []byte(text)) }}
}

// signers: one of each kind of key, made once.
var signers = sync.OnceValue(func() []signer {
	return []signer{octSigner(64), rsaSigner(2048), ecSigner(api.P256), ecSigner(api.P384), edSigner(5)}
})

// signerFor: the one that goes with an algorithm.
func signerFor(a api.Alg) signer {
	for _, s := range signers() {
		if wantFits(a, s.key) {
			return s
		}
	}
	panic("no algorithm")
}

// copied: the key, in memory of its own.
func copied(k api.Key) api.Key {
	for _, part := range []*[]byte{&k.Secret, &k.N, &k.E, &k.X, &k.Y} {
		*part = bytes.Clone(*part)
	}
	return k
}

// changed: bytes with the one at a place another one.
func changed(b []byte, at int, mask byte) []byte {
	b = bytes.Clone(b)
	b[at] ^= mask
	return b
}

// withMore: the key with a part that its type does not use, each such part once; and with a curve, if it has none.
func withMore(k api.Key, part []byte) []api.Key {
	var out []api.Key
	for i := range 5 {
		more := copied(k)
		at := []*[]byte{&more.Secret, &more.N, &more.E, &more.X, &more.Y}[i]
		if len(*at) == 0 {
			*at = part
			out = append(out, more)
		}
	}
	if k.Kty == api.Oct || k.Kty == api.RSA {
		for _, crv := range []api.Crv{api.P256, api.P384, api.Ed25519, 4, -1} {
			more := copied(k)
			more.Crv = crv
			out = append(out, more)
		}
	}
	return out
}
