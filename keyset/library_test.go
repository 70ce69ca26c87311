package keyset_test

import (
	"bytes"
	stdjson "encoding/json"
	"math/rand"
	"slices"
	"testing"

	"signet/api"
	"signet/keyset"
)

// decoded: the keys of a set, as Go's own library reads them.
func decoded(t *testing.T, doc string) []map[string]any {
	t.Helper()
	d := stdjson.NewDecoder(bytes.NewReader([]byte(doc)))
	d.UseNumber()
	var whole map[string]any
	if err := d.Decode(&whole); err != nil {
		t.Fatalf("%.900q: %v", doc, err)
	}
	var out []map[string]any
	for _, x := range whole["keys"].([]any) {
		out = append(out, x.(map[string]any))
	}
	return out
}

// holdAllowed: just one object has the kid, and it allows the algorithm of that name.
func holdAllowed(t *testing.T, doc, kid, name string) {
	t.Helper()
	var found []map[string]any
	for _, x := range decoded(t, doc) {
		if x["kid"] == any(kid) {
			found = append(found, x)
		}
	}
	if len(found) != 1 {
		t.Fatalf("16.5: %q has %d keys of the kid %q", doc, len(found), kid)
	}
	x := found[0]
	kty := map[byte]string{'H': "oct", 'R': "RSA", 'P': "RSA", 'E': "EC"}[name[0]]
	crv := map[string]string{"ES256": "P-256", "ES384": "P-384", "EdDSA": "Ed25519"}[name]
	if name == "EdDSA" {
		kty = "OKP"
	}
	if x["kty"] != any(kty) || crv != "" && x["crv"] != any(crv) {
		t.Fatalf("16.5: %v is bound to %s", x, name)
	}
	if use, has := x["use"]; has && use != any("sig") {
		t.Fatalf("16.5: %v is bound to %s, and its use is %v", x, name, use)
	}
	if alg, has := x["alg"]; has && alg != any(name) {
		t.Fatalf("16.5: %v is bound to %s, and its alg is %v", x, name, alg)
	}
	if ops, has := x["key_ops"]; has && !slices.Contains(ops.([]any), any("verify")) {
		t.Fatalf("16.5: %v is bound to %s, and its key_ops are %v", x, name, ops)
	}
}

// holdText: is it what the library says of a member?
func holdText(t *testing.T, x map[string]any, name, text string, has bool) {
	t.Helper()
	said, there := x[name]
	if there != has || has && said != any(text) || !has && text != "" {
		t.Fatalf("16.2: %s of %v: %q, %t", name, x, text, has)
	}
}

// The entries of drawn sets are what the library reads.
func TestAgainstLibrary(t *testing.T) {
	t.Parallel()
	r := rand.New(rand.NewSource(5))
	for range 2000 {
		doc := set(drawnKeys(r, r.Intn(6)))
		want := decoded(t, doc)
		l := entries(t, doc)
		if len(l) != len(want) {
			t.Fatalf("16.2: %d entries of %d", len(l), len(want))
		}
		for i, x := range l {
			holdText(t, want[i], "kid", x.Kid, x.HasKid)
			holdText(t, want[i], "use", x.Use, x.HasUse)
			holdText(t, want[i], "alg", x.Alg, x.HasAlg)
			kty := map[any]api.Kty{"oct": api.Oct, "RSA": api.RSA, "EC": api.EC, "OKP": api.OKP}[want[i]["kty"]]
			if x.Kty != kty {
				t.Fatalf("16.2: kty of %v: %d", want[i], int(x.Kty))
			}
			ops, has := want[i]["key_ops"].([]any)
			if has != x.HasOps || !slices.EqualFunc(x.Ops, ops, func(a string, b any) bool { return any(a) == b }) {
				t.Fatalf("16.2: key_ops of %v: %v, %t", want[i], x.Ops, x.HasOps)
			}
		}
	}
}

// RFC 7517's example set (A.1), its long members cut short: what is in them does not count here.
func TestRfc7517(t *testing.T) {
	t.Parallel()
	l := entries(t, `{"keys":
 [
  {"kty":"EC",
   "crv":"P-256",
   "x":"MKBCTNIcKUSDii11ySs3526iDZ8AiTo7Tu6KPAqv7D4",
   "y":"4Etl6SRW2YiLUrN5vfvVHuhp7x8PxltmWWlbbM4IFyM",
   "use":"enc",
   "kid":"1"},

  {"kty":"RSA",
   "n":"0vx7agoebGcQSuuPiLJXZptN9nndrQmbXEps2aiAFbWhM78LhWx4cbbfAAtVT86z",
   "e":"AQAB",
   "alg":"RS256",
   "kid":"2011-04-29"}
 ]
}`)
	ec, code := keyset.Find(l, "1")
	if code != api.OK || ec.Kty != api.EC || ec.Use != "enc" || len(ec.Value) != 7 {
		t.Fatalf("16.3: %v, %d", ec, int(code))
	}
	rsa, code := keyset.Find(l, "2011-04-29")
	if code != api.OK || rsa.Kty != api.RSA || rsa.Alg != "RS256" || len(rsa.Value) != 6 {
		t.Fatalf("16.3: %v, %d", rsa, int(code))
	}
	for i, name := range names {
		if keyset.Bind(ec, algs[i]) != api.ErrBinding || (keyset.Bind(rsa, algs[i]) == api.OK) != (name == "RS256") {
			t.Errorf("16.4: %s: %d, %d", name, int(keyset.Bind(ec, algs[i])), int(keyset.Bind(rsa, algs[i])))
		}
	}
}
