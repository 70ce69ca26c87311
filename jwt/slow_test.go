package jwt_test

import (
	"fmt"
	"math"
	"reflect"
	"slices"
	"strings"
	"testing"

	"signet/api"
	"signet/b64"
	"signet/claims"
	"signet/header"
	"signet/json"
	"signet/jwk"
	"signet/jws"
	"signet/jwt"
	"signet/keyset"
)

// The chapter's words: every code that the ten steps could say, asked one behind the other, of which the first that is not OK counts.

const low, high = math.MinInt64, math.MaxInt64

func want(token, keys string, p api.Policy) (api.Claims, api.Errno) {
	var out api.Claims
	var h api.Header
	var entry api.Entry
	var k api.Key
	var l []api.Entry
	var first, second, third []byte
	head, rest, _ := strings.Cut(token, ".")
	pay, sig, _ := strings.Cut(rest, ".")
	steps := []func() api.Errno{
		func() api.Errno { return unless(p.Leeway >= 0 && p.Leeway <= 600, api.ErrPolicy) },
		func() api.Errno { return unless(len(token) <= 65536, api.ErrLarge) },
		func() api.Errno { return unless(len(keys) <= 262144, api.ErrLarge) },
		func() api.Errno { return unless(strings.Count(token, ".") == 2, api.ErrDots) },
		func() (code api.Errno) { first, code, _ = b64.Decode(head); return code },
		func() (code api.Errno) { h, code = header.Parse(string(first)); return code },
		func() api.Errno { return header.Allow(p, h) },
		func() (code api.Errno) { l, code = keyset.Parse(keys); return code },
		func() (code api.Errno) { entry, code = keyset.Find(l, h.Kid); return code },
		func() api.Errno { return keyset.Bind(entry, h.Alg) },
		func() (code api.Errno) { k, code = jwk.Read(entry.Value, 0); return code },
		func() (code api.Errno) { third, code, _ = b64.Decode(sig); return code },
		func() api.Errno { return jws.Check(h.Alg, k, head+"."+pay, third) },
		func() (code api.Errno) { second, code, _ = b64.Decode(pay); return code },
		func() (code api.Errno) { out, code = claims.Parse(string(second)); return code },
		func() api.Errno { return claims.Check(out, p) },
	}
	for _, step := range steps {
		if code := step(); code != api.OK {
			return api.Claims{}, code
		}
	}
	return out, api.OK
}

func unless(ok bool, code api.Errno) api.Errno {
	if ok {
		return api.OK
	}
	return code
}

// Asking, with every answer held against the chapter's words, P4, and what follows from the answer.

func short(x any) string { return fmt.Sprintf("%.700q", fmt.Sprintf("%+v", x)) }

// fields: the claims without the value, and with an empty list for none.
func fields(c api.Claims) api.Claims {
	c.Value, c.Aud = nil, append([]string{}, c.Aud...)
	return c
}

func same(a, b api.Claims) bool {
	return slices.Equal(a.Value, b.Value) && reflect.DeepEqual(fields(a), fields(b))
}

func zero(x any) bool { return reflect.ValueOf(x).IsZero() }

// hold: Verify at one clock, and Judge.
func hold(t *testing.T, token, keys string, p api.Policy, now int64) (api.Claims, api.Errno) {
	t.Helper()
	wanted, wantCode := want(token, keys, p)
	c, w, judged := jwt.Judge(token, keys, p)
	if judged != wantCode || !same(c, wanted) {
		t.Fatalf("20.2: Judge(%.900q, %.900q, %s) = %s, %d, want %s, %d", token, keys, short(p), short(c), int(judged), short(wanted), int(wantCode))
	}
	if judged != api.OK {
		if !zero(c) || !zero(w) {
			t.Fatalf("P4: Judge(%.900q, %.900q, %s) refuses, and answers %s, %+v", token, keys, short(p), short(c), w)
		}
	} else if open, _ := claims.Open(wanted, p.Leeway); w != open {
		t.Fatalf("20.2: Judge(%.900q, %.900q, %s): the window %+v, want %+v", token, keys, short(p), w, open)
	}
	return holdAt(t, token, keys, p, now, c, w, judged)
}

// holdAt: Verify at a clock, of what Judge answers so.
func holdAt(t *testing.T, token, keys string, p api.Policy, now int64, judge api.Claims, w api.Window, judged api.Errno) (api.Claims, api.Errno) {
	t.Helper()
	wantCode := judged
	if judged == api.OK {
		wantCode = claims.Clock(judge, p.Leeway, now)
	}
	c, code := jwt.Verify(token, keys, p, now)
	if code != wantCode {
		t.Fatalf("20.1: Verify(%.900q, %.900q, %s, %d) = %d, want %d", token, keys, short(p), now, int(code), int(wantCode))
	}
	if code != api.OK {
		if !zero(c) {
			t.Fatalf("P4: Verify(%.900q, %.900q, %s, %d) refuses, and answers %s", token, keys, short(p), now, short(c))
		}
	} else if !same(c, judge) {
		t.Fatalf("20.3: Verify(%.900q, %.900q, %s, %d) = %s, and Judge %s", token, keys, short(p), now, short(c), short(judge))
	}
	inside := judged == api.OK && !w.Empty && w.From <= now && now <= w.To
	if inside != (code == api.OK) || judged == api.OK && !inside && code != api.ErrExpired && code != api.ErrEarly && code != api.ErrFuture {
		t.Fatalf("20.3: Verify(%.900q, %.900q, %s, %d) = %d, and Judge %+v, %d", token, keys, short(p), now, int(code), w, int(judged))
	}
	if code == api.OK {
		holdTaken(t, token, keys, p, c)
	}
	return c, code
}

// holdTaken: 20.4 and 20.5, of a token that was taken: asked of the texts themselves.
func holdTaken(t *testing.T, token, keys string, p api.Policy, c api.Claims) {
	t.Helper()
	parts := strings.Split(token, ".")
	var b [3][]byte
	for i := range parts {
		b[i], _, _ = b64.Decode(parts[i])
	}
	if again, code := jws.Compact(b[0], b[1], b[2]); code != api.OK || again != token {
		t.Fatalf("20.5: %.900q is taken, and %.900q is made of its parts", token, again)
	}
	if v, code, _ := json.Parse(string(b[1])); code != api.OK || !slices.Equal(v, c.Value) {
		t.Fatalf("20.5: %.900q is taken, and its payload is %s, %d", token, short(v), int(code))
	}
	head := grown(b[0])
	name, kid := head.member("alg").text(), head.member("kid").text()
	var found []tree
	for _, entry := range grown([]byte(keys)).member("keys").kids {
		if m := entry.member("kid"); m.kind() == api.String && m.text() == kid {
			found = append(found, entry)
		}
	}
	if !slices.Contains(p.Algs, name) || len(b[2]) == 0 || len(found) != 1 {
		t.Fatalf("20.4: %.900q is taken under %s: the alg %q, %d keys of the kid %q", token, short(p), name, len(found), kid)
	}
	holdBound(t, found[0], name)
}

// holdBound: the key's members allow the algorithm of the name.
func holdBound(t *testing.T, entry tree, name string) {
	t.Helper()
	for _, c := range rows {
		if c.name != name {
			continue
		}
		kty := map[api.Kty]string{api.Oct: "oct", api.RSA: "RSA", api.EC: "EC", api.OKP: "OKP"}[c.kty]
		crv := map[api.Crv]string{api.P256: "P-256", api.P384: "P-384", api.Ed25519: "Ed25519"}[c.crv]
		use, alg, ops := entry.member("use"), entry.member("alg"), entry.member("key_ops")
		verify := slices.ContainsFunc(ops.kids, func(x tree) bool { return x.text() == "verify" })
		if entry.member("kty").text() != kty || crv != "" && entry.member("crv").text() != crv || use.there() && use.text() != "sig" || alg.there() && alg.text() != name || ops.there() && !verify {
			t.Fatalf("20.4: a token is taken with %s and the key %s", name, short(entry.nodes))
		}
		return
	}
	t.Fatalf("20.4: a token is taken with %q", name)
}

// tree: a JSON value; without nodes: none.
type tree struct {
	nodes []api.Node
	kids  []tree
}

func (x tree) there() bool { return len(x.nodes) > 0 }

func (x tree) kind() api.Kind {
	if !x.there() {
		return 0
	}
	return x.nodes[0].Kind
}

// text: that of a string; of anything else one that no string is (UTF-8 apart).
func (x tree) text() string {
	if x.kind() != api.String {
		return "\xff"
	}
	return x.nodes[0].Text
}

func (x tree) member(name string) tree {
	for _, kid := range x.kids {
		if x.kind() == api.Object && kid.nodes[0].Key == name {
			return kid
		}
	}
	return tree{}
}

func grown(doc []byte) tree {
	v, _, _ := json.Parse(string(doc))
	if len(v) == 0 {
		return tree{}
	}
	return grownAt(v, 0)
}

func grownAt(v []api.Node, at int) tree {
	x := tree{}
	next := at + 1
	for range v[at].Kids {
		kid := grownAt(v, next)
		x.kids = append(x.kids, kid)
		next += len(kid.nodes)
	}
	x.nodes = v[at:next]
	return x
}

// mustPlan: a plan's code at its clock; what Judge says of it is the same, unless it is the clock's.
func mustPlan(t *testing.T, what string, wantCode api.Errno, p *plan) api.Claims {
	t.Helper()
	return mustVerify(t, what, wantCode, p.token(), p.keys(), p.policy, p.now)
}

func mustVerify(t *testing.T, what string, wantCode api.Errno, token, keys string, p api.Policy, now int64) api.Claims {
	t.Helper()
	c, code := jwt.Verify(token, keys, p, now)
	if code != wantCode {
		t.Fatalf("20.1: %s: Verify(%.900q, %.900q, %s, %d) = %d, want %d", what, token, keys, short(p), now, int(code), int(wantCode))
	}
	hold(t, token, keys, p, now)
	return c
}
