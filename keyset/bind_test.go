package keyset_test

import (
	"fmt"
	"slices"
	"strings"
	"testing"

	"signet/api"
	"signet/json"
	"signet/keyset"
)

// The binding: each type with its algorithms, and what the curve must be.
func TestBinding(t *testing.T) {
	t.Parallel()
	for object, good := range map[string]string{
		`{"kty":"oct"}`:                               "HS256 HS384 HS512",
		`{"kty":"oct","crv":"P-256"}`:                 "HS256 HS384 HS512",
		`{"kty":"oct","crv":7}`:                       "HS256 HS384 HS512",
		`{"kty":"RSA"}`:                               "RS256 RS384 RS512 PS256 PS384 PS512",
		`{"kty":"RSA","crv":"Ed25519","d":"AA"}`:      "RS256 RS384 RS512 PS256 PS384 PS512",
		`{"kty":"EC","crv":"P-256"}`:                  "ES256",
		`{"crv":"\u0050-256","kty":"EC"}`:             "ES256",
		`{"kty":"EC","crv":"P-384"}`:                  "ES384",
		`{"kty":"OKP","crv":"Ed25519"}`:               "EdDSA",
		`{"kty":"EC"}`:                                "",
		`{"kty":"OKP"}`:                               "",
		`{"kty":"EC","crv":"Ed25519"}`:                "",
		`{"kty":"EC","crv":"P-521"}`:                  "",
		`{"kty":"EC","crv":""}`:                       "",
		`{"kty":"EC","crv":null}`:                     "",
		`{"kty":"EC","crv":256}`:                      "",
		`{"kty":"EC","crv":["P-256"]}`:                "",
		`{"kty":"EC","crv":{"crv":"P-256"}}`:          "",
		`{"kty":"EC","a":{"crv":"P-256"}}`:            "",
		`{"kty":"EC","a":[{"crv":"P-256"},"P-256"]}`:  "",
		`{"kty":"EC","Crv":"P-256"}`:                  "",
		`{"kty":"OKP","crv":"P-256"}`:                 "",
		`{"kty":"OKP","crv":"ed25519"}`:               "",
		`{"kty":"OKP","crv":"Ed448"}`:                 "",
		`{"kty":"OKP","crv":"X25519"}`:                "",
		`{"kty":""}`:                                  "",
		`{"kty":"","alg":""}`:                         "",
		`{"kty":"none","alg":"none"}`:                 "",
		`{"kty":"ec","crv":"P-256"}`:                  "",
		`{"kty":"HS256","alg":"HS256"}`:               "",
		`{"kty":"oct","use":"sig"}`:                   "HS256 HS384 HS512",
		`{"kty":"oct","use":"SIG"}`:                   "",
		`{"kty":"oct","use":""}`:                      "",
		`{"kty":"oct","use":"sig "}`:                  "",
		`{"kty":"RSA","use":"enc"}`:                   "",
		`{"kty":"oct","alg":"HS384"}`:                 "HS384",
		`{"kty":"oct","alg":"hs384"}`:                 "",
		`{"kty":"oct","alg":""}`:                      "",
		`{"kty":"oct","alg":"RS256"}`:                 "",
		`{"kty":"RSA","alg":"PS512"}`:                 "PS512",
		`{"kty":"oct","key_ops":["verify"]}`:          "HS256 HS384 HS512",
		`{"kty":"oct","key_ops":["sign","verify"]}`:   "HS256 HS384 HS512",
		`{"kty":"oct","key_ops":["\u0076erify","x"]}`: "HS256 HS384 HS512",
		`{"kty":"oct","key_ops":["Verify"]}`:          "",
		`{"kty":"oct","key_ops":["verify "]}`:         "",
		`{"kty":"oct","key_ops":["sign"]}`:            "",
		`{"kty":"oct","key_ops":[]}`:                  "",
	} {
		mustBind(t, object, good)
	}
}

// joined: the object of these members; an empty one is left out.
func joined(members ...string) string {
	return "{" + strings.Join(slices.DeleteFunc(members, func(m string) bool { return m == "" }), ",") + "}"
}

// Every choice of type, curve, use, alg and key_ops, with every algorithm.
func TestProduct(t *testing.T) {
	t.Parallel()
	algNames := []string{"", `"alg":""`, `"alg":"none"`}
	for _, name := range names {
		algNames = append(algNames, `"alg":"`+name+`"`)
	}
	for _, kty := range []string{`"kty":"oct"`, `"kty":"RSA"`, `"kty":"EC"`, `"kty":"OKP"`, `"kty":"x"`} {
		for _, crv := range []string{"", `"crv":"P-256"`, `"crv":"P-384"`, `"crv":"Ed25519"`, `"crv":"x"`, `"crv":1`} {
			for _, use := range []string{"", `"use":"sig"`, `"use":"enc"`} {
				for _, alg := range algNames {
					var objects []string
					for _, ops := range []string{"", `"key_ops":[]`, `"key_ops":["verify"]`, `"key_ops":["sign"]`} {
						objects = append(objects, joined(ops, alg, crv, kty, use))
					}
					for _, x := range holdParse(t, `{"keys":[`+strings.Join(objects, ",")+`]}`) {
						holdBind(t, x)
					}
				}
			}
		}
	}
}

func value(t *testing.T, text string) []api.Node {
	t.Helper()
	v, code, at := json.Parse(text)
	if code != api.OK {
		t.Fatalf("no JSON: %.900q: %d at %d", text, int(code), at)
	}
	return v
}

// Entries that Parse does not make: the fields count, and of the Value crv alone.
func TestMadeEntries(t *testing.T) {
	t.Parallel()
	var values [][]api.Node
	for _, text := range []string{`{}`, `[]`, `null`, `"P-256"`, `7`, `["crv","P-256"]`, `{"crv":"P-256"}`, `{"crv":"P-384","kty":7,"use":"enc","alg":1,"key_ops":{}}`, `{"kty":"oct","crv":"Ed25519"}`, `[{"crv":"P-256"}]`} {
		values = append(values, value(t, text))
	}
	for _, v := range values {
		for _, kty := range []api.Kty{api.NoKty, api.Oct, api.RSA, api.EC, api.OKP, api.OKP + 1, -1, 1 << 40} {
			for mask := range 64 {
				x := api.Entry{Value: v, Kty: kty, Use: []string{"sig", "enc"}[mask&1], HasUse: mask&2 != 0, HasAlg: mask&4 != 0, HasOps: mask&8 != 0, HasKid: mask&16 != 0}
				if mask&32 != 0 {
					x.Ops = []string{"a", "verify", "verify"}
				}
				for _, alg := range []string{"", "ES256", "HS256"} {
					x.Alg = alg
					holdBind(t, x)
				}
			}
		}
	}
}

// Find counts entries, however they were made; nothing is asked of their Values.
func TestFind(t *testing.T) {
	t.Parallel()
	has := func(kid string, kty api.Kty) api.Entry { return api.Entry{Kid: kid, HasKid: true, Kty: kty} }
	l := []api.Entry{has("a", api.RSA), {Kid: "b"}, has("", api.OKP), {}, has("c", api.EC), {Kid: "a"}, has("A", 77), has("c", api.EC), has("a\x00", api.NoKty), has("\xff", api.Oct)}
	l[0].Value, l[0].Ops = []api.Node{{Kind: -1, Key: "x", Kids: 9}, {}}, []string{"x", "x"}
	l[0].Use, l[0].Alg = "u", "v"
	l[2].Value, l[2].HasUse, l[2].HasAlg, l[2].HasOps = []api.Node{}, true, true, true
	for kid, want := range map[string]api.Errno{"a": api.OK, "b": api.ErrNoKey, "": api.OK, "c": api.ErrKeys, "A": api.OK, "d": api.ErrNoKey, "a\x00": api.OK, "\xff": api.OK, "\xfe": api.ErrNoKey, "aa": api.ErrNoKey} {
		if x, code := keyset.Find(l, kid); code != want {
			t.Errorf("16.3: Find(%q) = %v, %d, want %d", kid, x, int(code), int(want))
		}
		holdFind(t, l, kid)
		holdFind(t, slices.Concat(l, l), kid)
		holdFind(t, l[1:], kid)
	}
	holdFind(t, nil, "")
	holdFind(t, nil, "a")
	holdFind(t, []api.Entry{}, "")
	holdFind(t, make([]api.Entry, 5), "")
	for n := range 6 {
		same := slices.Repeat([]api.Entry{has("k", api.RSA)}, n)
		want := []api.Errno{api.ErrNoKey, api.OK, api.ErrKeys, api.ErrKeys, api.ErrKeys, api.ErrKeys}[n]
		if _, code := keyset.Find(same, "k"); code != want {
			t.Errorf("16.3: %d entries of one kid: %d, want %d", n, int(code), int(want))
		}
	}
}

// The one key stands at any place of the list.
func TestFindPlaces(t *testing.T) {
	t.Parallel()
	for n := 1; n < 12; n++ {
		for at := range n {
			var parts []string
			for i := range n {
				kid := fmt.Sprintf(`"kid":"%d"`, i)
				if i == at {
					kid = `"kid":"k","n":1`
				}
				parts = append(parts, joined(kid, `"kty":"RSA"`))
			}
			l := entries(t, `{"keys":[`+strings.Join(parts, ",")+`]}`)
			if x, code := keyset.Find(l, "k"); code != api.OK || !same(x, l[at]) {
				t.Fatalf("16.3: %d of %d: %v, %d", at, n, x, int(code))
			}
		}
	}
}
