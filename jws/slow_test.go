package jws_test

import (
	"bytes"
	"encoding/base64"
	"fmt"
	"strings"
	"testing"

	"signet/api"
	"signet/ecdsa"
	"signet/ed"
	"signet/hmac"
	"signet/jws"
	"signet/pss"
	"signet/rsa1"
	"signet/spki"
)

// The chapter's words, written out case by case: base64url by Go's own library, signatures by the layers that the chapter names.

const maxToken = 65536

// row: one of the twelve: what it is bound to, and its hash. NoCrv: the curve does not count.
type row struct {
	alg  api.Alg
	kty  api.Kty
	crv  api.Crv
	hash api.Hash
	size int
}

var rows = []row{
	{api.HS256, api.Oct, api.NoCrv, api.SHA256, 32}, {api.HS384, api.Oct, api.NoCrv, api.SHA384, 48}, {api.HS512, api.Oct, api.NoCrv, api.SHA512, 64},
	{api.RS256, api.RSA, api.NoCrv, api.SHA256, 32}, {api.RS384, api.RSA, api.NoCrv, api.SHA384, 48}, {api.RS512, api.RSA, api.NoCrv, api.SHA512, 64},
	{api.PS256, api.RSA, api.NoCrv, api.SHA256, 32}, {api.PS384, api.RSA, api.NoCrv, api.SHA384, 48}, {api.PS512, api.RSA, api.NoCrv, api.SHA512, 64},
	{api.ES256, api.EC, api.P256, api.SHA256, 32}, {api.ES384, api.EC, api.P384, api.SHA384, 48}, {api.EdDSA, api.OKP, api.Ed25519, 0, 0},
}

// noAlgs: numbers that are no algorithm.
var noAlgs = []api.Alg{api.NoAlg, api.EdDSA + 1, -1, -12, 14, 1 << 32, 1<<32 + 1, 1<<63 - 1, -1 << 63}

// allAlgs: the twelve, and such as are none.
func allAlgs() []api.Alg {
	var out []api.Alg
	for _, c := range rows {
		out = append(out, c.alg)
	}
	return append(out, noAlgs...)
}

func rowOf(a api.Alg) (row, bool) {
	for _, c := range rows {
		if c.alg == a {
			return c, true
		}
	}
	return row{}, false
}

func wantSplit(token string) ([3]string, api.Errno) {
	if len(token) > maxToken {
		return [3]string{}, api.ErrLarge
	}
	var dots []int
	for i := range len(token) {
		if token[i] == '.' {
			dots = append(dots, i)
		}
	}
	if len(dots) != 2 {
		return [3]string{}, api.ErrDots
	}
	return [3]string{token[:dots[0]], token[dots[0]+1 : dots[1]], token[dots[1]+1:]}, api.OK
}

func wantBytes(text string) ([]byte, api.Errno) {
	for i := range len(text) {
		if !strings.Contains("ABCDEFGHIJKLMNOPQRSTUVWXYZabcdefghijklmnopqrstuvwxyz0123456789-_", text[i:i+1]) {
			return nil, api.ErrSign
		}
	}
	if len(text)%4 == 1 {
		return nil, api.ErrLen
	}
	b, err := base64.RawURLEncoding.Strict().DecodeString(text)
	if err != nil {
		return nil, api.ErrBits
	}
	return b, api.OK
}

func wantDecode(token string) (parts [3][]byte, code api.Errno) {
	texts, code := wantSplit(token)
	for i, text := range texts {
		if code == api.OK {
			parts[i], code = wantBytes(text)
		}
	}
	if code != api.OK {
		return [3][]byte{}, code
	}
	return parts, api.OK
}

func wantCompact(head, pay, sig []byte) (string, api.Errno) {
	e := base64.RawURLEncoding
	token := e.EncodeToString(head) + "." + e.EncodeToString(pay) + "." + e.EncodeToString(sig)
	if len(token) > maxToken {
		return "", api.ErrLarge
	}
	return token, api.OK
}

func wantFits(a api.Alg, k api.Key) bool {
	c, ok := rowOf(a)
	return ok && c.kty == k.Kty && (c.crv == api.NoCrv || c.crv == k.Crv)
}

// wantHolds: what the layer of the algorithm says of the signature.
func wantHolds(a api.Alg, k api.Key, text, sig []byte) bool {
	c, _ := rowOf(a)
	switch a {
	case api.HS256, api.HS384, api.HS512:
		return hmac.Check(c.hash, k.Secret, text, sig)
	case api.RS256, api.RS384, api.RS512:
		return rsa1.Verify(c.hash, k.N, k.E, text, sig) == api.OK
	case api.PS256, api.PS384, api.PS512:
		return pss.Verify(c.hash, k.N, k.E, text, sig) == api.OK
	case api.ES256:
		return ecdsa.Verify(api.SHA256, api.P256, k.X, k.Y, text, sig) == api.OK
	case api.ES384:
		return ecdsa.Verify(api.SHA384, api.P384, k.X, k.Y, text, sig) == api.OK
	}
	return ed.Verify(k.X, text, sig) == api.OK
}

func wantCheck(a api.Alg, k api.Key, signing string, sig []byte) api.Errno {
	c, ok := rowOf(a)
	switch {
	case !ok:
		return api.ErrAlg
	case !wantFits(a, k):
		return api.ErrBinding
	case spki.Check(k) != api.OK:
		return api.ErrKey
	case k.Kty == api.Oct && len(k.Secret) < c.size:
		return api.ErrKey
	case !wantHolds(a, k, []byte(signing), sig):
		return api.ErrSignature
	}
	return api.OK
}

func wantTag(a api.Alg, secret []byte, signing string) ([]byte, api.Errno) {
	c, ok := rowOf(a)
	if !ok || c.kty != api.Oct {
		return nil, api.ErrAlg
	}
	if len(secret) < c.size || len(secret) > 4096 {
		return nil, api.ErrKey
	}
	return hmac.Sum(c.hash, secret, []byte(signing)), api.OK
}

// Asking, with every answer held against the chapter's words, P4, and what follows from the answer.

func told(k api.Key) string {
	return fmt.Sprintf("{%d %d secret %d n %d e %x x %x y %x}", int(k.Kty), int(k.Crv), len(k.Secret), len(k.N), k.E, k.X, k.Y)
}

func holdSplit(t *testing.T, token string) api.Errno {
	t.Helper()
	want, wantCode := wantSplit(token)
	head, pay, sig, code := jws.Split(token)
	if got := [3]string{head, pay, sig}; code != wantCode || got != want {
		t.Fatalf("18.1: Split(%.200q) = %.200q, %d, want %.200q, %d", token, got, int(code), want, int(wantCode))
	}
	return code
}

func holdDecode(t *testing.T, token string) (parts [3][]byte, code api.Errno) {
	t.Helper()
	holdSplit(t, token)
	want, wantCode := wantDecode(token)
	head, pay, sig, code := jws.Decode(token)
	parts = [3][]byte{head, pay, sig}
	for i, part := range parts {
		if code != wantCode || !bytes.Equal(part, want[i]) {
			t.Fatalf("18.2: Decode(%.200q): %d, part %d = %.200x, want %d, %.200x", token, int(code), i, part, int(wantCode), want[i])
		}
	}
	if code != api.OK {
		if head != nil || pay != nil || sig != nil {
			t.Fatalf("P4: Decode(%.200q) refuses, and answers something", token)
		}
		return parts, code
	}
	if again, code := jws.Compact(head, pay, sig); code != api.OK || again != token {
		t.Fatalf("18.7: Compact of Decode(%.200q) = %.200q, %d", token, again, int(code))
	}
	return parts, api.OK
}

func holdCompact(t *testing.T, head, pay, sig []byte) (string, api.Errno) {
	t.Helper()
	want, wantCode := wantCompact(head, pay, sig)
	token, code := jws.Compact(head, pay, sig)
	if code != wantCode || token != want {
		t.Fatalf("18.3: Compact(%.60x, %.60x, %.60x) = %.100q, %d, want %.100q, %d", head, pay, sig, token, int(code), want, int(wantCode))
	}
	if code != api.OK {
		return token, code
	}
	h, p, s, code := jws.Decode(token)
	if code != api.OK || !bytes.Equal(h, head) || !bytes.Equal(p, pay) || !bytes.Equal(s, sig) {
		t.Fatalf("18.7: Decode of Compact(%.60x, %.60x, %.60x) = %.60x, %.60x, %.60x, %d", head, pay, sig, h, p, s, int(code))
	}
	return token, api.OK
}

func holdFits(t *testing.T, a api.Alg, k api.Key) bool {
	t.Helper()
	got := jws.Fits(a, k)
	if want := wantFits(a, k); got != want {
		t.Fatalf("18.4: Fits(%d, %s) = %v", int(a), told(k), got)
	}
	return got
}

func holdCheck(t *testing.T, a api.Alg, k api.Key, signing string, sig []byte) api.Errno {
	t.Helper()
	code := jws.Check(a, k, signing, sig)
	if want := wantCheck(a, k, signing, sig); code != want {
		t.Fatalf("18.5: Check(%d, %s, %.60q, %.200x) = %d, want %d", int(a), told(k), signing, sig, int(code), int(want))
	}
	if code == api.OK && (len(sig) == 0 || !holdFits(t, a, k)) {
		t.Fatalf("18.8: Check(%d, %s, %.60q, %.200x) is OK", int(a), told(k), signing, sig)
	}
	return code
}

func holdTag(t *testing.T, a api.Alg, secret []byte, signing string) ([]byte, api.Errno) {
	t.Helper()
	want, wantCode := wantTag(a, secret, signing)
	tag, code := jws.Tag(a, secret, signing)
	if code != wantCode || !bytes.Equal(tag, want) {
		t.Fatalf("18.6: Tag(%d, %d bytes, %.60q) = %x, %d, want %x, %d", int(a), len(secret), signing, tag, int(code), want, int(wantCode))
	}
	if code != api.OK && tag != nil {
		t.Fatalf("P4: Tag(%d, %d bytes, %.60q) refuses, and answers %x", int(a), len(secret), signing, tag)
	}
	if code != api.OK {
		return tag, code
	}
	if code := jws.Check(a, api.Key{Kty: api.Oct, Secret: secret}, signing, tag); code != api.OK {
		t.Fatalf("18.8: Check of Tag(%d, %x, %.60q) = %d", int(a), secret, signing, int(code))
	}
	return tag, api.OK
}

func mustSplit(t *testing.T, want api.Errno, token string) {
	t.Helper()
	if _, _, _, code := jws.Split(token); code != want {
		t.Fatalf("18.1: Split(%.200q) = %d, want %d", token, int(code), int(want))
	}
	holdDecode(t, token)
}

func mustDecode(t *testing.T, want api.Errno, token string) {
	t.Helper()
	if _, _, _, code := jws.Decode(token); code != want {
		t.Fatalf("18.2: Decode(%.200q) = %d, want %d", token, int(code), int(want))
	}
	holdDecode(t, token)
}

func mustCompact(t *testing.T, want api.Errno, head, pay, sig []byte) {
	t.Helper()
	if _, code := jws.Compact(head, pay, sig); code != want {
		t.Fatalf("18.3: Compact of %d, %d, %d bytes = %d, want %d", len(head), len(pay), len(sig), int(code), int(want))
	}
	holdCompact(t, head, pay, sig)
}

func mustCheck(t *testing.T, what string, want api.Errno, a api.Alg, k api.Key, signing string, sig []byte) {
	t.Helper()
	if code := jws.Check(a, k, signing, sig); code != want {
		t.Fatalf("18.5: %s: Check(%d, %s, %.60q, %.200x) = %d, want %d", what, int(a), told(k), signing, sig, int(code), int(want))
	}
	holdCheck(t, a, k, signing, sig)
}

func mustTag(t *testing.T, want api.Errno, a api.Alg, secret []byte, signing string) {
	t.Helper()
	if _, code := jws.Tag(a, secret, signing); code != want {
		t.Fatalf("18.6: Tag(%d, %d bytes, %.60q) = %d, want %d", int(a), len(secret), signing, int(code), int(want))
	}
	holdTag(t, a, secret, signing)
}
