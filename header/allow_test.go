package header_test

import (
	"slices"
	"strings"
	"testing"

	"signet/api"
)

// Every algorithm under every policy that lists one name, or all but one.
func TestListed(t *testing.T) {
	t.Parallel()
	for _, a := range algs {
		h := api.Header{Alg: a, Kid: "k"}
		mustAllow(t, api.ErrBarred, api.Policy{}, h)
		mustAllow(t, api.ErrBarred, api.Policy{Algs: []string{}}, h)
		mustAllow(t, api.ErrBarred, api.Policy{Algs: []string{"", "none", "NoAlg", "0", "\x00"}}, h)
		for i, name := range names {
			just, butOne := api.ErrBarred, api.ErrBarred
			if algs[i] == a {
				just = api.OK
			} else if nameOf(a) != "" {
				butOne = api.OK
			}
			mustAllow(t, just, api.Policy{Algs: []string{name}}, h)
			mustAllow(t, just, api.Policy{Algs: []string{"none", name, "", name}}, h)
			mustAllow(t, just, api.Policy{Algs: []string{name, "x"}}, h)
			mustAllow(t, butOne, api.Policy{Algs: slices.Concat(names[:i], names[i+1:])}, h)
		}
	}
}

// Byte by byte: what is nearly a name allows nothing.
func TestNearlyListed(t *testing.T) {
	t.Parallel()
	for i, name := range names {
		h := api.Header{Alg: algs[i]}
		others := append(near(name), name+"\x00", name+","+name, "["+name+"]", "\xff"+name, name+"\xff")
		others = slices.DeleteFunc(others, func(s string) bool { return s == name })
		for _, s := range others {
			mustAllow(t, wantAllow(api.Policy{Algs: []string{s}}, h), api.Policy{Algs: []string{s}}, h)
		}
		mustAllow(t, api.ErrBarred, api.Policy{Algs: others}, h)
		mustAllow(t, api.OK, api.Policy{Algs: append(others, name)}, h)
	}
}

// The typ: wanted or not, there or not, the same or not.
func TestTyp(t *testing.T) {
	t.Parallel()
	typs := append(near("JWT"), "JWT", "at+jwt", "application/at+jwt", "\xff", "\xff\x00", "JWT\x00", strings.Repeat("JWT", 30000))
	for _, wanted := range []string{"", "JWT", "\xff", "at+jwt"} {
		for _, typ := range typs {
			for mask := range 4 {
				p := api.Policy{Algs: []string{"ES256"}, HasTyp: mask&1 != 0, Typ: wanted}
				h := api.Header{Alg: api.ES256, HasTyp: mask&2 != 0, Typ: typ}
				want := api.OK
				if p.HasTyp && (!h.HasTyp || typ != wanted) {
					want = api.ErrTyp
				}
				mustAllow(t, want, p, h)
				// That the algorithm is barred is told first.
				h.Alg = api.ES384
				mustAllow(t, api.ErrBarred, p, h)
			}
		}
	}
}

// Nothing else of the policy, and nothing else of the header, counts.
func TestNothingElse(t *testing.T) {
	t.Parallel()
	for _, leeway := range []int64{-1 << 63, -1, 0, 600, 601, 1<<63 - 1} {
		for mask := range 4 {
			p := api.Policy{Algs: []string{"RS256"}, Iss: "i", HasIss: mask&1 != 0, Aud: "a", HasAud: mask&2 != 0, Leeway: leeway, Need: []string{"alg", "exp", "", "\xff"}}
			for _, kid := range []string{"", "k", "\xff", strings.Repeat("k", api.MaxKeys+1)} {
				mustAllow(t, api.OK, p, api.Header{Alg: api.RS256, Kid: kid})
				mustAllow(t, api.ErrBarred, p, api.Header{Alg: api.RS384, Kid: kid})
			}
		}
	}
}

// 17.5: what is read and allowed is listed; a policy with one name more allows it too.
func TestOneMore(t *testing.T) {
	t.Parallel()
	for i, name := range names {
		h, _ := holdParse(t, `{"alg":"`+name+`","kid":"k","typ":"t"}`)
		for mask := range 1 << 12 {
			var listed []string
			for j, other := range names {
				if mask>>j&1 != 0 {
					listed = append(listed, other)
				}
			}
			code := holdAllow(t, api.Policy{Algs: listed}, h)
			if (code == api.OK) != (mask>>i&1 != 0) {
				t.Fatalf("17.5: %s of %q: %d", name, listed, int(code))
			}
		}
	}
}
