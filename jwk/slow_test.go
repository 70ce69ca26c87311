package jwk_test

import (
	"bytes"
	"crypto/sha256"
	"encoding/base64"
	"fmt"
	"strings"
	"testing"

	"signet/api"
	"signet/json"
	"signet/jwk"
	"signet/spki"
)

// The chapter's words, written out type by type, over json.Shaped, spki.Check (nobody else says which keys are right) and Go's own library.

// behind: the place behind the value that begins there, of a well shaped value.
func behind(v []api.Node, at int) int {
	next := at + 1
	for range v[at].Kids {
		next = behind(v, next)
	}
	return next
}

// membersOf: an object's members by their names; nil, if none stands there.
func membersOf(v []api.Node, at int) map[string]api.Node {
	if at < 0 || at >= len(v) || v[at].Kind != api.Object {
		return nil
	}
	members := map[string]api.Node{}
	next := at + 1
	for range v[at].Kids {
		members[v[next].Key] = v[next]
		next = behind(v, next)
	}
	return members
}

// unsigned: the bytes of base64url. (Go's own decoder passes over line ends.)
func unsigned(s string) ([]byte, bool) {
	b, err := base64.RawURLEncoding.Strict().DecodeString(s)
	return b, err == nil && !strings.ContainsAny(s, "\r\n")
}

func signs(b []byte) string { return base64.RawURLEncoding.EncodeToString(b) }

var (
	privateNames = []string{"d", "p", "q", "dp", "dq", "qi", "oth"}
	curves       = map[string]api.Crv{"P-256": api.P256, "P-384": api.P384, "Ed25519": api.Ed25519}
)

func wantRead(v []api.Node, at int) (api.Key, api.Errno) {
	if !json.Shaped(v) {
		return api.Key{}, api.ErrMember
	}
	members := membersOf(v, at)
	isString := func(name string) bool { return members[name].Kind == api.String }
	if members == nil || !isString("kty") {
		return api.Key{}, api.ErrMember
	}
	var k api.Key
	kty, crv := members["kty"].Text, members["crv"].Text
	switch kty {
	default:
		return api.Key{}, api.ErrKty
	case "oct":
		k.Kty = api.Oct
	case "RSA":
		k.Kty = api.RSA
	case "EC", "OKP":
		k.Kty, k.Crv = api.EC, curves[crv]
		if kty == "OKP" {
			k.Kty = api.OKP
		}
		switch {
		case !isString("crv"):
			return api.Key{}, api.ErrMember
		case kty == "EC" && crv != "P-256" && crv != "P-384" || kty == "OKP" && crv != "Ed25519":
			return api.Key{}, api.ErrKty
		}
	}
	for _, name := range privateNames {
		if _, there := members[name]; there && kty != "oct" {
			return api.Key{}, api.ErrSecret
		}
	}
	parts := map[string]map[string]*[]byte{"oct": {"k": &k.Secret}, "RSA": {"n": &k.N, "e": &k.E}, "EC": {"x": &k.X, "y": &k.Y}, "OKP": {"x": &k.X}}[kty]
	for name := range parts {
		if !isString(name) {
			return api.Key{}, api.ErrMember
		}
	}
	for name, part := range parts {
		b, ok := unsigned(members[name].Text)
		if !ok {
			return api.Key{}, api.ErrKey
		}
		*part = b
	}
	if spki.Check(k) != api.OK {
		return api.Key{}, api.ErrKey
	}
	return k, api.OK
}

func wantText(k api.Key) (string, api.Errno) {
	if spki.Check(k) != api.OK {
		return "", api.ErrKey
	}
	crv := map[api.Crv]string{api.P256: "P-256", api.P384: "P-384", api.Ed25519: "Ed25519"}[k.Crv]
	switch k.Kty {
	case api.Oct:
		return fmt.Sprintf(`{"k":"%s","kty":"oct"}`, signs(k.Secret)), api.OK
	case api.RSA:
		return fmt.Sprintf(`{"e":"%s","kty":"RSA","n":"%s"}`, signs(k.E), signs(k.N)), api.OK
	case api.EC:
		return fmt.Sprintf(`{"crv":"%s","kty":"EC","x":"%s","y":"%s"}`, crv, signs(k.X), signs(k.Y)), api.OK
	}
	return fmt.Sprintf(`{"crv":"%s","kty":"OKP","x":"%s"}`, crv, signs(k.X)), api.OK
}

func wantThumbprint(k api.Key) (string, api.Errno) {
	text, code := wantText(k)
	if code != api.OK {
		return "", code
	}
	sum := sha256.Sum256([]byte(text))
	return signs(sum[:]), api.OK
}

func same(a, b api.Key) bool {
	return a.Kty == b.Kty && a.Crv == b.Crv && bytes.Equal(a.Secret, b.Secret) && bytes.Equal(a.N, b.N) && bytes.Equal(a.E, b.E) && bytes.Equal(a.X, b.X) && bytes.Equal(a.Y, b.Y)
}

func zero(k api.Key) bool {
	return k.Kty == 0 && k.Crv == 0 && k.Secret == nil && k.N == nil && k.E == nil && k.X == nil && k.Y == nil
}

func told(k api.Key) string {
	return fmt.Sprintf("{Kty %d, Crv %d, Secret %.20x.. of %d, N %.20x.. of %d, E %x, X %x, Y %x}", int(k.Kty), int(k.Crv), k.Secret, len(k.Secret), k.N, len(k.N), k.E, k.X, k.Y)
}

// Asking, with every answer held against the chapter's words, P4, and what follows from the answer.

// value: of a text that must be JSON.
func value(t *testing.T, text string) []api.Node {
	t.Helper()
	v, code, at := json.Parse(text)
	if code != api.OK {
		t.Fatalf("no JSON: %.900q: %d at %d", text, int(code), at)
	}
	return v
}

func mustRead(t *testing.T, what string, want api.Errno, text string) {
	t.Helper()
	v := value(t, text)
	if k, code := jwk.Read(v, 0); code != want {
		t.Fatalf("15.1: %s: Read of %.900s = %s, %d, want %d", what, text, told(k), int(code), int(want))
	}
	holdValue(t, v, 0)
}

// mustSay: that key, and no other.
func mustSay(t *testing.T, what string, want api.Key, text string) {
	t.Helper()
	if k, code := jwk.Read(value(t, text), 0); code != api.OK || !same(k, want) {
		t.Fatalf("%s: Read of %.900s = %s, %d, want %s", what, text, told(k), int(code), told(want))
	}
	mustRead(t, what, api.OK, text)
}

func holdValue(t *testing.T, v []api.Node, at int) {
	t.Helper()
	want, wantCode := wantRead(v, at)
	k, code := jwk.Read(v, at)
	if code != wantCode || !same(k, want) {
		t.Fatalf("15.1: Read(%.2000q, %d) = %s, %d, want %s, %d", fmt.Sprint(v), at, told(k), int(code), told(want), int(wantCode))
	}
	if code == api.OK {
		holdKey(t, k)
	} else if !zero(k) {
		t.Fatalf("P4: Read(%.2000q, %d) refuses, and answers %s", fmt.Sprint(v), at, told(k))
	}
}

// holdKey: Text, Thumbprint and back, of whatever key.
func holdKey(t *testing.T, k api.Key) {
	t.Helper()
	want, wantCode := wantText(k)
	text, code := jwk.Text(k)
	if code != wantCode || text != want {
		t.Fatalf("15.2: Text(%s) = %q, %d, want %q, %d", told(k), text, int(code), want, int(wantCode))
	}
	want, wantCode = wantThumbprint(k)
	if sum, code := jwk.Thumbprint(k); code != wantCode || sum != want {
		t.Fatalf("15.3: Thumbprint(%s) = %q, %d, want %q, %d", told(k), sum, int(code), want, int(wantCode))
	}
	if code != api.OK {
		return
	}
	v, code, at := json.Parse(text)
	if code != api.OK {
		t.Fatalf("15.4: Parse of Text(%s) = %d at %d", told(k), int(code), at)
	}
	if back, code := jwk.Read(v, 0); code != api.OK || !same(back, k) {
		t.Fatalf("15.4: Read of Text(%s) = %s, %d", told(k), told(back), int(code))
	}
	if short, code := json.Print(v); code != api.OK || short != text {
		t.Fatalf("15.2: Text(%s) = %q, and json.Print writes %q, %d", told(k), text, short, int(code))
	}
}
