package signet_test

import (
	"bytes"
	"crypto"
	stdecdsa "crypto/ecdsa"
	"crypto/ed25519"
	"crypto/elliptic"
	stdhmac "crypto/hmac"
	"crypto/rand"
	"crypto/rsa"
	"crypto/sha256"
	_ "crypto/sha512"
	"crypto/x509"
	"encoding/base64"
	stdpem "encoding/pem"
	"fmt"
	"math/big"
	"strings"
	"sync"
)

// Keys, key sets and tokens, by Go's own library.

func must[T any](x T, err error) T {
	if err != nil {
		panic(err)
	}
	return x
}

func signs[T ~string | ~[]byte](b T) string { return base64.RawURLEncoding.EncodeToString([]byte(b)) }

// quoted: a string of JSON in its shortest spelling.
func quoted(s string) string {
	var b strings.Builder
	b.WriteByte('"')
	for _, c := range []byte(s) {
		if at := strings.IndexByte("\"\\\b\f\n\r\t", c); at >= 0 {
			b.WriteString(`\` + `"\bfnrt`[at:at+1])
		} else if c < 32 {
			fmt.Fprintf(&b, `\u%04x`, c)
		} else {
			b.WriteByte(c)
		}
	}
	b.WriteByte('"')
	return b.String()
}

// hand: a key that signs: the members that it needs, in the order of their names, as JSON without a brace; what signs with it.
type hand struct {
	algs    []string
	members string
	public  any // as Go's library has it; nil of a secret
	sign    func(alg, text string) []byte
}

// key: the object, with a kid and, if they are wanted, other members, each with a comma ahead of it.
func (h hand) key(kid string, more ...string) string {
	return "{" + h.members + `,"kid":` + quoted(kid) + strings.Join(more, "") + "}"
}

// token: one of that payload.
func (h hand) token(alg, kid, pay string) string {
	text := signs(headOf(alg, kid)) + "." + signs(pay)
	return text + "." + signs(h.sign(alg, text))
}

// thumb: the sum of its text, by the library.
func (h hand) thumb() string {
	sum := sha256.Sum256([]byte("{" + h.members + "}"))
	return signs(sum[:])
}

// pem: its text, by the library.
func (h hand) pem() string {
	return string(stdpem.EncodeToMemory(&stdpem.Block{Type: "PUBLIC KEY", Bytes: must(x509.MarshalPKIXPublicKey(h.public))}))
}

func headOf(alg, kid string) string { return `{"alg":` + quoted(alg) + `,"kid":` + quoted(kid) + `}` }

func set(keys ...string) string { return `{"keys":[` + strings.Join(keys, ",") + `]}` }

func hashOf(alg string) crypto.Hash {
	return map[string]crypto.Hash{"256": crypto.SHA256, "384": crypto.SHA384, "512": crypto.SHA512}[alg[2:]]
}

func sumOf(alg, text string) []byte {
	h := hashOf(alg).New()
	h.Write([]byte(text))
	return h.Sum(nil)
}

// secretHand: a secret of one byte, so many times.
func secretHand(b byte, count int) hand {
	secret := bytes.Repeat([]byte{b}, count)
	return hand{[]string{"HS256", "HS384", "HS512"}, `"k":` + quoted(signs(secret)) + `,"kty":"oct"`, nil, func(alg, text string) []byte {
		m := stdhmac.New(hashOf(alg).New, secret)
		m.Write([]byte(text))
		return m.Sum(nil)
	}}
}

func rsaHand(bits int) hand {
	k := must(rsa.GenerateKey(rand.Reader, bits))
	members := `"e":` + quoted(signs(big.NewInt(int64(k.E)).Bytes())) + `,"kty":"RSA","n":` + quoted(signs(k.N.Bytes()))
	return hand{[]string{"RS256", "RS384", "RS512", "PS256", "PS384", "PS512"}, members, &k.PublicKey, func(alg, text string) []byte {
		if alg[0] == 'P' {
			return must(rsa.SignPSS(rand.Reader, k, hashOf(alg), sumOf(alg, text), &rsa.PSSOptions{SaltLength: rsa.PSSSaltLengthEqualsHash}))
		}
		return must(rsa.SignPKCS1v15(nil, k, hashOf(alg), sumOf(alg, text)))
	}}
}

func ecHand(alg string) hand {
	c, size, crv := elliptic.P256(), 32, "P-256"
	if alg == "ES384" {
		c, size, crv = elliptic.P384(), 48, "P-384"
	}
	k := must(stdecdsa.GenerateKey(c, rand.Reader))
	pub := must(k.PublicKey.Bytes())
	members := `"crv":` + quoted(crv) + `,"kty":"EC","x":` + quoted(signs(pub[1:1+size])) + `,"y":` + quoted(signs(pub[1+size:]))
	return hand{[]string{alg}, members, &k.PublicKey, func(alg, text string) []byte {
		r, s, err := stdecdsa.Sign(rand.Reader, k, sumOf(alg, text))
		must(0, err)
		return append(r.FillBytes(make([]byte, size)), s.FillBytes(make([]byte, size))...)
	}}
}

func edHand(seed byte) hand {
	k := ed25519.NewKeyFromSeed(bytes.Repeat([]byte{seed}, 32))
	return hand{[]string{"EdDSA"}, `"crv":"Ed25519","kty":"OKP","x":` + quoted(signs(k[32:])), k.Public(), func(alg, text string) []byte { return ed25519.Sign(k, []byte(text)) }}
}

// hands: one of each kind, made once.
var hands = sync.OnceValue(func() []hand {
	return []hand{secretHand('x', 64), rsaHand(2048), rsaHand(2049), ecHand("ES256"), ecHand("ES384"), edHand(5)}
})

// usual: the secret that most tests sign with, its key k, and the set of it.
var usual = secretHand('x', 32)

var usualSet = set(usual.key("k"))

// pays: a token of that payload under the key k.
func pays(pay string) string { return usual.token("HS256", "k", pay) }
