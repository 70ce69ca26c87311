package gate_test

import (
	stdhmac "crypto/hmac"
	"crypto/sha256"
	"encoding/base64"
	stdjson "encoding/json"
	"strconv"
	"strings"

	"signet/api"
)

// Keys, key sets and tokens, by Go's own library. A secret is told by its letter.

func signs(b string) string { return base64.RawURLEncoding.EncodeToString([]byte(b)) }

func quoted(s string) string {
	b, err := stdjson.Marshal(s)
	if err != nil {
		panic(err)
	}
	return string(b)
}

func secret(letter string) string { return strings.Repeat(letter, 32) }

func key(kid, letter string) string {
	return `{"kty":"oct","kid":` + quoted(kid) + `,"k":` + quoted(signs(secret(letter))) + `}`
}

func set(keys ...string) string { return `{"keys":[` + strings.Join(keys, ",") + `]}` }

func headOf(kid string) string { return `{"alg":"HS256","kid":` + quoted(kid) + `}` }

// tag: a text and the tag behind it, as base64url.
func tag(text, letter string) string {
	m := stdhmac.New(sha256.New, []byte(secret(letter)))
	m.Write([]byte(text))
	return text + "." + signs(string(m.Sum(nil)))
}

// signed: a token of a header's text and a payload's, as they are.
func signed(head, pay, letter string) string { return tag(signs(head)+"."+signs(pay), letter) }

// pays: a token of that payload under the key that most gates here have.
func pays(pay string) string { return signed(headOf("k"), pay, "x") }

var usual = set(key("k", "x"))

var asked = api.Policy{Algs: []string{"HS256"}}

// by: an issuer; none: a token without one.
func by(iss ...string) []string { return iss }

// claim: what a token of that issuer, jti and exp says; more are further members, each with a comma ahead of it.
func claim(iss []string, jti string, exp int64, more ...string) string {
	pay := `{"jti":` + quoted(jti) + `,"exp":` + strconv.FormatInt(exp, 10)
	for _, s := range iss {
		pay += `,"iss":` + quoted(s)
	}
	return pay + strings.Join(more, "") + "}"
}

// ticket: the token of it.
func ticket(iss []string, jti string, exp int64, more ...string) string {
	return pays(claim(iss, jti, exp, more...))
}
