package serial_test

import (
	"bytes"
	"crypto"
	stdecdsa "crypto/ecdsa"
	"crypto/ed25519"
	"crypto/elliptic"
	stdhmac "crypto/hmac"
	"crypto/rand"
	"crypto/rsa"
	_ "crypto/sha256"
	_ "crypto/sha512"
	"encoding/base64"
	"fmt"
	"math/big"
	"strings"
	"sync"

	"signet/api"
)

// row: one of the twelve algorithms: its name, what it is bound to, and its hash.
type row struct {
	alg  api.Alg
	name string
	kty  api.Kty
	crv  api.Crv
	hash api.Hash
	size int
}

var rows = []row{
	{api.HS256, "HS256", api.Oct, api.NoCrv, api.SHA256, 32}, {api.HS384, "HS384", api.Oct, api.NoCrv, api.SHA384, 48}, {api.HS512, "HS512", api.Oct, api.NoCrv, api.SHA512, 64},
	{api.RS256, "RS256", api.RSA, api.NoCrv, api.SHA256, 32}, {api.RS384, "RS384", api.RSA, api.NoCrv, api.SHA384, 48}, {api.RS512, "RS512", api.RSA, api.NoCrv, api.SHA512, 64},
	{api.PS256, "PS256", api.RSA, api.NoCrv, api.SHA256, 32}, {api.PS384, "PS384", api.RSA, api.NoCrv, api.SHA384, 48}, {api.PS512, "PS512", api.RSA, api.NoCrv, api.SHA512, 64},
	{api.ES256, "ES256", api.EC, api.P256, api.SHA256, 32}, {api.ES384, "ES384", api.EC, api.P384, api.SHA384, 48}, {api.EdDSA, "EdDSA", api.OKP, api.Ed25519, 0, 0},
}

// signer: the members of a key as JSON, and who signs with it, by Go's own library.
type signer struct {
	members []member
	sign    func(c row, text string) []byte
}

// member: a name, and a value that is spelled already.
type member struct{ name, value string }

func (c row) theirs() crypto.Hash {
	return map[api.Hash]crypto.Hash{api.SHA256: crypto.SHA256, api.SHA384: crypto.SHA384, api.SHA512: crypto.SHA512}[c.hash]
}

func (c row) sum(text string) []byte {
	s := c.theirs().New()
	s.Write([]byte(text))
	return s.Sum(nil)
}

func must[T any](x T, err error) T {
	if err != nil {
		panic(err)
	}
	return x
}

func signs(b []byte) string { return base64.RawURLEncoding.EncodeToString(b) }

// quoted: a string of JSON in its shortest spelling.
func quoted(s string) string {
	var b strings.Builder
	b.WriteByte('"')
	for _, c := range []byte(s) {
		if at := strings.IndexByte("\"\\\b\f\n\r\t", c); at >= 0 {
			b.WriteString(`\` + `"\bfnrt`[at:at+1])
		} else if c < 32 {
			fmt.Fprintf(&b, `\u%04x`, c)
		} else {
			b.WriteByte(c)
		}
	}
	b.WriteByte('"')
	return b.String()
}

// membersOf: a key's, as JSON.
func membersOf(k api.Key) []member {
	crv := map[api.Crv]string{api.P256: "P-256", api.P384: "P-384", api.Ed25519: "Ed25519"}[k.Crv]
	switch k.Kty {
	case api.Oct:
		return []member{{"kty", `"oct"`}, {"k", quoted(signs(k.Secret))}}
	case api.RSA:
		return []member{{"kty", `"RSA"`}, {"n", quoted(signs(k.N))}, {"e", quoted(signs(k.E))}}
	case api.EC:
		return []member{{"kty", `"EC"`}, {"crv", quoted(crv)}, {"x", quoted(signs(k.X))}, {"y", quoted(signs(k.Y))}}
	}
	return []member{{"kty", `"OKP"`}, {"crv", quoted(crv)}, {"x", quoted(signs(k.X))}}
}

// object: the members' text.
func object(members ...member) string {
	var parts []string
	for _, m := range members {
		parts = append(parts, quoted(m.name)+":"+m.value)
	}
	return "{" + strings.Join(parts, ",") + "}"
}

// set: a key set's text.
func set(entries ...string) string { return `{"keys":[` + strings.Join(entries, ",") + `]}` }

func octSigner(n int) signer {
	secret := make([]byte, n)
	for i := range secret {
		secret[i] = byte(7*i + n)
	}
	return secretSigner(secret)
}

func secretSigner(secret []byte) signer {
	return signer{membersOf(api.Key{Kty: api.Oct, Secret: secret}), func(c row, text string) []byte {
		m := stdhmac.New(c.theirs().New, secret)
		m.Write([]byte(text))
		return m.Sum(nil)
	}}
}

func rsaSigner(bits int) signer {
	k := must(rsa.GenerateKey(rand.Reader, bits))
	return signer{membersOf(api.Key{Kty: api.RSA, N: k.N.Bytes(), E: big.NewInt(int64(k.E)).Bytes()}), func(c row, text string) []byte {
		if c.alg >= api.PS256 {
			return must(rsa.SignPSS(rand.Reader, k, c.theirs(), c.sum(text), &rsa.PSSOptions{SaltLength: rsa.PSSSaltLengthEqualsHash}))
		}
		return must(rsa.SignPKCS1v15(nil, k, c.theirs(), c.sum(text)))
	}}
}

func ecSigner(crv api.Crv) signer {
	c, size := elliptic.P256(), 32
	if crv == api.P384 {
		c, size = elliptic.P384(), 48
	}
	k := must(stdecdsa.GenerateKey(c, rand.Reader))
	pub := must(k.PublicKey.Bytes())
	return signer{membersOf(api.Key{Kty: api.EC, Crv: crv, X: pub[1 : 1+size], Y: pub[1+size:]}), func(c row, text string) []byte {
		r, s, err := stdecdsa.Sign(rand.Reader, k, c.sum(text))
		must(0, err)
		return append(r.FillBytes(make([]byte, size)), s.FillBytes(make([]byte, size))...)
	}}
}

func edSigner(seed byte) signer {
	k := ed25519.NewKeyFromSeed(bytes.Repeat([]byte{seed}, 32))
	return signer{membersOf(api.Key{Kty: api.OKP, Crv: api.Ed25519, X: k[32:]}), func(c row, text string) []byte { return ed25519.Sign(k, []byte(text)) }}
}

// signers: one of each kind of key, made once.
var signers = sync.OnceValue(func() map[string]signer {
	return map[string]signer{"HS": octSigner(64), "RS": rsaSigner(2048), "PS": rsaSigner(2049), "ES256": ecSigner(api.P256), "ES384": ecSigner(api.P384), "EdDSA": edSigner(5)}
})

// signerFor: the one that goes with an algorithm.
func signerFor(c row) signer {
	if s, ok := signers()[c.name]; ok {
		return s
	}
	return signers()[c.name[:2]]
}

func namesOfAll() []string {
	var l []string
	for _, c := range rows {
		l = append(l, c.name)
	}
	return l
}

// hand: who signs, with an algorithm and a key, under a kid.
type hand struct {
	row
	kid string
	by  signer
}

// secretHand: one of HS256, HS384, HS512 in turn, with a secret of its own.
func secretHand(i int, kid string) hand {
	secret := bytes.Repeat([]byte{byte(i + 1)}, 64)
	return hand{rows[i%3], kid, secretSigner(secret)}
}

// token: of a payload's text.
func (h hand) token(pay string) string {
	return h.tokenOf(object(member{"alg", quoted(h.name)}, member{"kid", quoted(h.kid)}), pay)
}

// tokenOf: of a header's text and a payload's, as they are.
func (h hand) tokenOf(head, pay string) string {
	return h.signed(signs([]byte(head)) + "." + signs([]byte(pay)))
}

func (h hand) signed(signing string) string { return signing + "." + signs(h.by.sign(h.row, signing)) }

// entry: the key in a set.
func (h hand) entry() string {
	return object(append([]member{{"kid", quoted(h.kid)}}, h.by.members...)...)
}

func setOf(hands ...hand) string {
	var entries []string
	for _, h := range hands {
		entries = append(entries, h.entry())
	}
	return set(entries...)
}

func tokensOf(pay string, hands ...hand) []string {
	var l []string
	for _, h := range hands {
		l = append(l, h.token(pay))
	}
	return l
}
