package idtoken_test

import (
	"slices"
	"strings"
	"testing"

	"signet/api"
	"signet/idtoken"
)

// The texts of OpenID Connect Core 1.0, appendix A.
const (
	access   = "jHkWEdUXMU1BwAsC4vtUsZwnNvTIxEl0z9K3vx5KF0Y"
	exchange = "Qcb0Orv1zh30vL1MPRsbm-diHiMwcLyZvn1arpZv-Jxf_11jnpEX3Tgfvk"
)

func mustHalf(t *testing.T, a api.Alg, text, want string, wantCode api.Errno) {
	t.Helper()
	if got, code := idtoken.Half(a, text); got != want || code != wantCode {
		t.Fatalf("22.1: Half(%d, %q) = %q, %d, want %q, %d", int(a), text, got, int(code), want, int(wantCode))
	}
}

// The rows of the chapter's first table.
func TestHalfExamples(t *testing.T) {
	t.Parallel()
	mustHalf(t, api.RS256, access, "77QmUPtjPfzWtF2AnpK9RQ", api.OK)
	mustHalf(t, api.RS256, exchange, "LDktKdoQak3Pk0cnXxCltA", api.OK)
	mustHalf(t, api.EdDSA, access, "q7nS86GgvvFaZkzALLWqJYaJIKw2wCDAVfCAsm5CrBM", api.OK)
	mustHalf(t, api.NoAlg, access, "", api.ErrAlg)
}

// All twelve algorithms, over texts of all lengths to behind a block, and of all bytes; 22, 32 and 43 signs.
func TestHalves(t *testing.T) {
	t.Parallel()
	texts := []string{"", "\x00", "\x00\x00", "a", "é", "\xff\xfe", access, exchange, access + " ", strings.ToUpper(access), strings.Repeat("a", 70000)}
	for n := range 300 {
		texts = append(texts, strings.Repeat(string([]byte{byte(n)}), n))
	}
	for _, x := range algs {
		signs := map[string]int{"256": 22, "384": 32, "512": 43, "DSA": 43}[x.name[2:]]
		for _, text := range texts {
			if got := holdHalf(t, x.alg, text); len(got) != signs {
				t.Fatalf("22.1: Half(%s, %.50q) has %d signs, want %d", x.name, text, len(got), signs)
			}
		}
	}
}

// What is no algorithm has no half, whatever the text is.
func TestNoHalf(t *testing.T) {
	t.Parallel()
	for _, a := range noAlgs {
		for _, text := range []string{"", access, "HS256"} {
			mustHalf(t, a, text, "", api.ErrAlg)
		}
	}
	for a := api.Alg(-300); a <= 600; a++ {
		holdHalf(t, a, "x")
	}
}

// The rows of the chapter's second table.
func TestCheckExamples(t *testing.T) {
	t.Parallel()
	w := api.Want{Client: "c"}
	mustCheck(t, api.OK, full(t), api.RS256, w, 0)
	mustCheck(t, api.ErrAzp, full(t, `"azp":"d"`), api.RS256, w, 0)
	mustCheck(t, api.ErrAzp, fullFor(t, `["c","d"]`), api.RS256, w, 0)
	mustCheck(t, api.OK, fullFor(t, `["c","d"]`, `"azp":"c"`), api.RS256, w, 0)
	mustCheck(t, api.OK, fullFor(t, `["c","c"]`), api.RS256, w, 0)
	mustCheck(t, api.ErrNonce, full(t), api.RS256, api.Want{Client: "c", HasNonce: true, Nonce: "n"}, 0)
	mustCheck(t, api.ErrNonce, full(t), api.RS256, api.Want{Client: "c", HasNonce: true}, 0)
	aged := api.Want{Client: "c", HasAge: true, MaxAge: 10, Leeway: 5}
	mustCheck(t, api.OK, full(t, `"auth_time":100`), api.RS256, aged, 115)
	mustCheck(t, api.ErrAge, full(t, `"auth_time":100`), api.RS256, aged, 116)
	for _, now := range []int64{low, -1, 0, 115, high - 1, high} {
		mustCheck(t, api.OK, full(t, `"auth_time":9223372036854775807`), api.RS256, api.Want{Client: "c", HasAge: true, MaxAge: 1 << 31, Leeway: 600}, now)
	}
}

// Step 1: the bounds of the leeway, and of the age where it is wanted.
func TestPolicy(t *testing.T) {
	t.Parallel()
	c := full(t, `"auth_time":0`)
	for _, leeway := range []int64{low, -601, -600, -1, 0, 1, 599, 600, 601, 1 << 32, high} {
		want := api.ErrPolicy
		if leeway >= 0 && leeway <= 600 {
			want = api.OK
		}
		mustCheck(t, want, c, api.ES256, api.Want{Client: "c", Leeway: leeway}, 0)
		mustCheck(t, want, c, api.ES256, api.Want{Client: "c", Leeway: leeway, HasAge: true, MaxAge: 7}, 0)
		mustCheck(t, api.ErrPolicy, c, api.ES256, api.Want{Client: "c", Leeway: leeway, HasAge: true, MaxAge: -1}, 0)
	}
	for _, age := range []int64{low, -1 << 31, -1, 0, 1, 600, 601, 1<<31 - 1, 1 << 31, 1<<31 + 1, 1 << 32, 1<<32 + 5, high - 600, high} {
		want := api.ErrPolicy
		if age >= 0 && age <= 1<<31 {
			want = api.OK
		}
		mustCheck(t, want, c, api.ES256, api.Want{Client: "c", HasAge: true, MaxAge: age}, 0)
		mustCheck(t, api.OK, c, api.ES256, api.Want{Client: "c", MaxAge: age}, 0)
	}
}

// Step 2: the twelve are taken, and nothing else.
func TestAlgs(t *testing.T) {
	t.Parallel()
	c := full(t)
	for _, x := range algs {
		mustCheck(t, api.OK, c, x.alg, api.Want{Client: "c"}, 0)
	}
	for _, a := range noAlgs {
		mustCheck(t, api.ErrAlg, c, a, api.Want{Client: "c"}, 0)
	}
	// An empty half, such as is answered beside ErrAlg, does not make the empty member right.
	mustCheck(t, api.ErrAlg, full(t, `"at_hash":""`, `"c_hash":""`), api.NoAlg, api.Want{Client: "c", HasAccess: true, HasCode: true}, 0)
}

// Step 3: all 32 ways in which five claims are there or not. What they say does not count, nor do jti and nbf.
func TestMissing(t *testing.T) {
	t.Parallel()
	members := []string{`"iss":""`, `"sub":""`, `"aud":["c"]`, `"exp":-9223372036854775808`, `"iat":9223372036854775807`}
	for mask := range 32 {
		var l []string
		for i, m := range members {
			if mask>>i&1 == 1 {
				l = append(l, m)
			}
		}
		want := api.ErrMissing
		if mask == 31 {
			want = api.OK
		}
		mustCheck(t, want, parsed(t, "{"+strings.Join(l, ",")+"}"), api.PS384, api.Want{Client: "c"}, 50)
		mustCheck(t, want, parsed(t, "{"+strings.Join(append(l, `"jti":"j"`, `"nbf":7`, `"x":{"iss":"i","sub":"s","aud":"c","exp":1,"iat":1}`), ",")+"}"), api.PS384, api.Want{Client: "c"}, 50)
	}
}

// The fields count, not the members of their names, where both do not agree.
func TestFieldsCount(t *testing.T) {
	t.Parallel()
	w := api.Want{Client: "c"}
	empty := []api.Node{{Kind: api.Object}}
	all := of(empty, "c")
	mustCheck(t, api.OK, all, api.HS256, w, 0)
	for _, spoil := range []func(c *api.Claims){
		func(c *api.Claims) { c.HasIss = false },
		func(c *api.Claims) { c.HasSub = false },
		func(c *api.Claims) { c.HasAud = false },
		func(c *api.Claims) { c.Exp.Has = false },
		func(c *api.Claims) { c.Iat.Has = false },
	} {
		said := full(t)
		spoil(&said)
		mustCheck(t, api.ErrMissing, said, api.HS256, w, 0)
		said = all
		spoil(&said)
		mustCheck(t, api.ErrMissing, said, api.HS256, w, 0)
	}
	said := full(t)
	said.Aud = []string{"d"}
	mustCheck(t, api.ErrAud, said, api.HS256, w, 0)
	said = fullFor(t, `["c","d"]`)
	said.Aud = []string{"c"}
	mustCheck(t, api.OK, said, api.HS256, w, 0)
	said.Iss, said.Sub, said.Jti, said.HasJti, said.Nbf = "x", "y", "z", true, api.Time{Has: true, At: high}
	said.Exp.At, said.Iat.At = low, high
	mustCheck(t, api.OK, said, api.HS256, w, 0)
}

// The token's own times, and its issuer, are not asked here.
func TestOwnTimes(t *testing.T) {
	t.Parallel()
	c := parsed(t, `{"iss":"i","sub":"s","aud":"c","exp":-9223372036854775808,"nbf":9223372036854775807,"iat":9223372036854775807}`)
	for _, now := range []int64{low, -1, 0, 1, high} {
		mustCheck(t, api.OK, c, api.EdDSA, api.Want{Client: "c"}, now)
	}
}

// Step 4: the client must be in the list, as it is, byte by byte.
func TestAudience(t *testing.T) {
	t.Parallel()
	empty := []api.Node{{Kind: api.Object}}
	texts := []string{"", "c", "C", "c ", " c", "cc", "c\x00", "d", "é", "e\u0301", "\xff", "\xfe", strings.Repeat("c", 5000), strings.Repeat("c", 5001)}
	for _, client := range texts {
		w := api.Want{Client: client}
		mustCheck(t, api.ErrAud, of(empty), api.RS512, w, 0)
		mustCheck(t, api.ErrAud, of(empty, slices.DeleteFunc(slices.Clone(texts), func(s string) bool { return s == client })...), api.RS512, w, 0)
		for _, aud := range texts {
			one, two := api.OK, api.OK
			if aud != client {
				one, two = api.ErrAud, api.ErrAzp
			}
			mustCheck(t, one, of(empty, aud), api.RS512, w, 0)
			mustCheck(t, one, of(empty, aud, aud, aud), api.RS512, w, 0)
			mustCheck(t, two, of(empty, aud, client), api.RS512, w, 0)
			mustCheck(t, two, of(empty, client, aud), api.RS512, w, 0)
			mustCheck(t, two, of(empty, client, client, aud, client), api.RS512, w, 0)
		}
	}
	mustCheck(t, api.ErrAud, fullFor(t, `[]`), api.RS512, api.Want{}, 0)
	mustCheck(t, api.ErrAud, fullFor(t, `[]`, `"azp":"c"`), api.RS512, api.Want{Client: "c"}, 0)
	mustCheck(t, api.ErrAud, fullFor(t, `"d"`, `"azp":"c"`), api.RS512, api.Want{Client: "c"}, 0)
	mustCheck(t, api.OK, fullFor(t, `"\u0063"`), api.RS512, api.Want{Client: "c"}, 0)
}

// Many audiences, members and bytes end soon.
func TestMany(t *testing.T) {
	t.Parallel()
	empty := []api.Node{{Kind: api.Object}}
	aud := slices.Repeat([]string{"c"}, 1000000)
	mustCheck(t, api.OK, of(empty, aud...), api.HS384, api.Want{Client: "c"}, 0)
	aud[len(aud)-1] = "d"
	mustCheck(t, api.ErrAzp, of(empty, aud...), api.HS384, api.Want{Client: "c"}, 0)
	mustCheck(t, api.ErrAzp, of(empty, aud...), api.HS384, api.Want{Client: "d"}, 0)
	mustCheck(t, api.ErrAud, of(empty, aud...), api.HS384, api.Want{Client: "e"}, 0)

	long := strings.Repeat("0123456789abcdef", 1<<16)
	more := []string{`"at_hash":"` + half(t, api.HS384, long) + `"`, `"c_hash":"` + half(t, api.HS384, long+"x") + `"`}
	w := api.Want{Client: "c", HasAccess: true, Access: long, HasCode: true, Code: long + "x"}
	mustCheck(t, api.OK, full(t, more...), api.HS384, w, 0)
	w.Access = long[1:]
	mustCheck(t, api.ErrHash, full(t, more...), api.HS384, w, 0)
}
