package ring_test

import (
	"crypto/ed25519"
	stdhmac "crypto/hmac"
	"crypto/sha256"
	"encoding/base64"
	stdjson "encoding/json"
	"strings"

	"signet/api"
)

// Keys, key sets and tokens, by Go's own library. A secret is told by its letter.

func signs(b string) string { return base64.RawURLEncoding.EncodeToString([]byte(b)) }

func quoted(s string) string {
	b, err := stdjson.Marshal(s)
	if err != nil {
		panic(err)
	}
	return string(b)
}

func secret(letter string) string { return strings.Repeat(letter, 32) }

// key: an Oct key; more are further members, each with a comma ahead of it.
func key(kid, letter string, more ...string) string {
	return `{"kty":"oct","kid":` + quoted(kid) + `,"k":` + quoted(signs(secret(letter))) + strings.Join(more, "") + `}`
}

func set(keys ...string) string { return `{"keys":[` + strings.Join(keys, ",") + `]}` }

func headOf(kid string) string { return `{"alg":"HS256","kid":` + quoted(kid) + `}` }

// tag: a text and the tag behind it, as base64url.
func tag(text, letter string) string {
	m := stdhmac.New(sha256.New, []byte(secret(letter)))
	m.Write([]byte(text))
	return text + "." + signs(string(m.Sum(nil)))
}

// signed: a token of a header's text and a payload's, as they are.
func signed(head, pay, letter string) string { return tag(signs(head)+"."+signs(pay), letter) }

const me = `{"sub":"me"}`

// token: one that every clock lets by.
func token(kid, letter string) string { return signed(headOf(kid), me, letter) }

var asked = api.Policy{Algs: []string{"HS256"}}

// edKey and edToken: of a key of another type.
func edKey(kid string, seed byte) string {
	pub := ed25519.NewKeyFromSeed([]byte(strings.Repeat(string(seed), 32))).Public().(ed25519.PublicKey)
	return `{"kty":"OKP","crv":"Ed25519","kid":` + quoted(kid) + `,"x":` + quoted(signs(string(pub))) + `}`
}

func edToken(kid string, seed byte) string {
	text := signs(`{"alg":"EdDSA","kid":`+quoted(kid)+`}`) + "." + signs(me)
	return text + "." + signs(string(ed25519.Sign(ed25519.NewKeyFromSeed([]byte(strings.Repeat(string(seed), 32))), []byte(text))))
}
