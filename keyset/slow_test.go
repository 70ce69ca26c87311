package keyset_test

import (
	"fmt"
	"slices"
	"strings"
	"testing"

	"signet/api"
	"signet/json"
	"signet/keyset"
)

// The chapter's words, written out case by case over the tree of a value, which is made here.

// tree: a JSON value, with the nodes that it is made of.
type tree struct {
	nodes []api.Node
	kids  []tree
}

func (x tree) kind() api.Kind { return x.nodes[0].Kind }

func (x tree) text() string { return x.nodes[0].Text }

// grown: the tree of the value that begins at the place of a well shaped one.
func grown(v []api.Node, at int) tree {
	x := tree{}
	next := at + 1
	for range v[at].Kids {
		kid := grown(v, next)
		x.kids = append(x.kids, kid)
		next += len(kid.nodes)
	}
	x.nodes = v[at:next]
	return x
}

// member: nil, if the value is no object, or has none of that name.
func (x tree) member(name string) *tree {
	for _, kid := range x.kids {
		if x.kind() == api.Object && kid.nodes[0].Key == name {
			return &kid
		}
	}
	return nil
}

func wantParse(doc string) ([]api.Entry, api.Errno) {
	if len(doc) > api.MaxKeys {
		return nil, api.ErrLarge
	}
	v, code, _ := json.Parse(doc)
	if code != api.OK {
		return nil, code
	}
	keys := grown(v, 0).member("keys")
	if keys == nil || keys.kind() != api.List {
		return nil, api.ErrMember
	}
	var out []api.Entry
	for _, x := range keys.kids {
		entry, ok := wantEntry(x)
		if !ok {
			return nil, api.ErrMember
		}
		out = append(out, entry)
	}
	return out, api.OK
}

func wantEntry(x tree) (api.Entry, bool) {
	kty := x.member("kty")
	if kty == nil || kty.kind() != api.String {
		return api.Entry{}, false
	}
	out := api.Entry{Value: x.nodes}
	switch kty.text() {
	case "oct":
		out.Kty = api.Oct
	case "RSA":
		out.Kty = api.RSA
	case "EC":
		out.Kty = api.EC
	case "OKP":
		out.Kty = api.OKP
	}
	for _, part := range []struct {
		name string
		text *string
		has  *bool
	}{{"kid", &out.Kid, &out.HasKid}, {"use", &out.Use, &out.HasUse}, {"alg", &out.Alg, &out.HasAlg}} {
		m := x.member(part.name)
		if m == nil {
			continue
		}
		if m.kind() != api.String {
			return api.Entry{}, false
		}
		*part.text, *part.has = m.text(), true
	}
	ops := x.member("key_ops")
	if ops == nil {
		return out, true
	}
	if ops.kind() != api.List {
		return api.Entry{}, false
	}
	out.HasOps = true
	met := map[string]bool{}
	for _, op := range ops.kids {
		if op.kind() != api.String || met[op.text()] {
			return api.Entry{}, false
		}
		met[op.text()] = true
		out.Ops = append(out.Ops, op.text())
	}
	return out, true
}

func wantFind(l []api.Entry, kid string) (api.Entry, api.Errno) {
	var found []api.Entry
	for _, x := range l {
		if x.HasKid && x.Kid == kid {
			found = append(found, x)
		}
	}
	if len(found) == 0 {
		return api.Entry{}, api.ErrNoKey
	}
	if len(found) > 1 {
		return api.Entry{}, api.ErrKeys
	}
	return found[0], api.OK
}

// names: the twelve, in the order of api's constants, which begin with NoAlg.
var names = strings.Fields("HS256 HS384 HS512 RS256 RS384 RS512 PS256 PS384 PS512 ES256 ES384 EdDSA")

// algs: the twelve, and numbers that are no algorithm.
var algs = []api.Alg{api.HS256, api.HS384, api.HS512, api.RS256, api.RS384, api.RS512, api.PS256, api.PS384, api.PS512, api.ES256, api.ES384, api.EdDSA, api.NoAlg, api.EdDSA + 1, -1, 1 << 32, 1<<32 + 1, 1<<63 - 1, -1 << 63}

// wantBind: of an entry whose Value is well shaped.
func wantBind(x api.Entry, a api.Alg) api.Errno {
	if a < 1 || a > 12 {
		return api.ErrBinding
	}
	name := names[a-1]
	crv := map[string]string{"ES256": "P-256", "ES384": "P-384", "EdDSA": "Ed25519"}[name]
	kty := map[string]api.Kty{"HS": api.Oct, "RS": api.RSA, "PS": api.RSA, "ES": api.EC, "Ed": api.OKP}[name[:2]]
	if x.Kty != kty {
		return api.ErrBinding
	}
	if crv != "" {
		m := grown(x.Value, 0).member("crv")
		if m == nil || m.kind() != api.String || m.text() != crv {
			return api.ErrBinding
		}
	}
	if x.HasUse && x.Use != "sig" || x.HasAlg && x.Alg != name || x.HasOps && !slices.Contains(x.Ops, "verify") {
		return api.ErrBinding
	}
	return api.OK
}

func same(a, b api.Entry) bool {
	return slices.Equal(a.Value, b.Value) && slices.Equal(a.Ops, b.Ops) && bare(a) == bare(b)
}

// bare: all of an entry but its lists.
func bare(x api.Entry) string {
	return fmt.Sprintf("%d %q %t %q %t %q %t %t", int(x.Kty), x.Kid, x.HasKid, x.Use, x.HasUse, x.Alg, x.HasAlg, x.HasOps)
}

func sameAll(a, b []api.Entry) bool { return slices.EqualFunc(a, b, same) }

func zero(x api.Entry) bool {
	return x.Value == nil && x.Ops == nil && bare(x) == bare(api.Entry{})
}

// Asking, with every answer held against the chapter's words, P4, and what follows from the answer.

func holdParse(t *testing.T, doc string) []api.Entry {
	t.Helper()
	want, wantCode := wantParse(doc)
	l, code := keyset.Parse(doc)
	if code != wantCode || !sameAll(l, want) {
		t.Fatalf("16.2: Parse(%.900q) = %.900q, %d, want %.900q, %d", doc, fmt.Sprint(l), int(code), fmt.Sprint(want), int(wantCode))
	}
	if code != api.OK && l != nil {
		t.Fatalf("P4: Parse(%.900q) refuses, and answers %.900q", doc, fmt.Sprint(l))
	}
	for _, x := range l {
		if !json.Shaped(x.Value) || x.Value[0].Key != "" {
			t.Fatalf("16.2: Parse(%.900q): an entry's Value is none by itself: %.900q", doc, fmt.Sprint(x.Value))
		}
	}
	return l
}

func holdFind(t *testing.T, l []api.Entry, kid string) {
	t.Helper()
	want, wantCode := wantFind(l, kid)
	x, code := keyset.Find(l, kid)
	if code != wantCode || !same(x, want) {
		t.Fatalf("16.3: Find(%.900q, %q) = %.900q, %d, want %.900q, %d", fmt.Sprint(l), kid, fmt.Sprint(x), int(code), fmt.Sprint(want), int(wantCode))
	}
	if code != api.OK && !zero(x) {
		t.Fatalf("P4: Find(%q) refuses, and answers %.900q", kid, fmt.Sprint(x))
	}
}

func holdBind(t *testing.T, x api.Entry) {
	t.Helper()
	for _, a := range algs {
		if code, want := keyset.Bind(x, a), wantBind(x, a); code != want {
			t.Fatalf("16.4: Bind(%.900q, %d) = %d, want %d", fmt.Sprint(x), int64(a), int(code), int(want))
		}
	}
}

var someKids = []string{"", "a", "b", "A", "a ", "a\x00", "é", "kid", "\xff", "none"}

// hold: all that the document's entries answer.
func hold(t *testing.T, doc string) {
	t.Helper()
	l := holdParse(t, doc)
	for _, kid := range someKids {
		holdFind(t, l, kid)
	}
	for _, x := range l {
		holdFind(t, l, x.Kid)
		holdBind(t, x)
	}
}

func mustParse(t *testing.T, what string, want api.Errno, doc string) {
	t.Helper()
	if _, code := keyset.Parse(doc); code != want {
		t.Fatalf("16.2: %s: Parse(%.900q) = %d, want %d", what, doc, int(code), int(want))
	}
	hold(t, doc)
}

// entries: of a document that must be a set.
func entries(t *testing.T, doc string) []api.Entry {
	t.Helper()
	mustParse(t, "a set", api.OK, doc)
	l, _ := keyset.Parse(doc)
	return l
}

// only: the entry of an object that must be a key.
func only(t *testing.T, object string) api.Entry {
	t.Helper()
	l := entries(t, `{"keys":[`+object+`]}`)
	if len(l) != 1 {
		t.Fatalf("16.2: %s: %d entries", object, len(l))
	}
	return l[0]
}
