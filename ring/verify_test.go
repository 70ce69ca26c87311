package ring_test

import (
	"strings"
	"testing"

	"signet/api"
	"signet/jwt"
)

// 24.2 and 24.6: the newest live set that has the kid judges, whatever it says, and no older one is asked.
func TestOneSetJudges(t *testing.T) {
	t.Parallel()
	x := newPair()
	x.mustRotate(t, api.OK, set(key("a", "x"), key("c", "z")), 0, 0)
	x.mustRotate(t, api.OK, set(key("a", "y")), 10, 100)
	x.mustVerify(t, api.ErrSignature, 0, token("a", "x"), 10)
	x.mustVerify(t, api.OK, 2, token("a", "y"), 10)
	x.mustVerify(t, api.OK, 1, token("c", "z"), 10)
	x.mustVerify(t, api.ErrSignature, 0, token("c", "y"), 10)
	x.mustVerify(t, api.ErrNoKey, 0, token("d", "x"), 10)
	x.mustDrop(t, api.OK, 2)
	x.mustVerify(t, api.OK, 1, token("a", "x"), 10)
	x.mustVerify(t, api.ErrSignature, 0, token("a", "y"), 10)
	x.mustVerify(t, api.OK, 1, token("a", "x"), 109)
	x.mustVerify(t, api.ErrNoKey, 0, token("a", "x"), 110)
}

// A newer set has the kid by any entry: with another type, use or algorithm, malformed, twice; how it is spelled does not count.
func TestAnyEntryCounts(t *testing.T) {
	t.Parallel()
	for newer, want := range map[string]api.Errno{
		`{"kty":"x","kid":"a"}`:                                      api.ErrBinding,
		`{"kty":"RSA","kid":"a","n":"","e":""}`:                      api.ErrBinding,
		edKey("a", 1):                                                api.ErrBinding,
		key("a", "x", `,"use":"enc"`):                                api.ErrBinding,
		key("a", "x", `,"alg":"HS384"`):                              api.ErrBinding,
		key("a", "x", `,"key_ops":["sign"]`):                         api.ErrBinding,
		key("a", "x", `,"use":"sig","key_ops":["verify"]`):           api.OK,
		`{"kty":"oct","kid":"a"}`:                                    api.ErrMember,
		`{"kty":"oct","kid":"a","k":7}`:                              api.ErrMember,
		`{"kty":"oct","kid":"a","k":"AA"}`:                           api.ErrKey,
		`{"kty":"oct","kid":"a","k":"="}`:                            api.ErrKey,
		key("a", "x") + "," + key("a", "x"):                          api.ErrKeys,
		key("b", "x") + "," + key("a", "x"):                          api.OK,
		`{"kty":"x","kid":"a"},` + key("a", "x"):                     api.ErrKeys,
		strings.Replace(key("a", "x"), `"a"`, `"\u0061"`, 1):         api.OK,
		key("A", "x"):                                                api.ErrNoKey,
		key("", "x"):                                                 api.ErrNoKey,
		key("a ", "x"):                                               api.ErrNoKey,
		key("a\x00", "x"):                                            api.ErrNoKey,
		`{"kty":"oct","k":"` + signs(secret("x")) + `"}`:             api.ErrNoKey,
		`{"kty":"oct","k":"a","kids":"a","Kid":"a","x":{"kid":"a"}}`: api.ErrNoKey,
		"": api.ErrNoKey,
	} {
		x := newPair()
		x.mustRotate(t, api.OK, set(newer), 0, 0)
		x.mustVerify(t, want, map[bool]int64{true: 1}[want == api.OK], token("a", "x"), 0)
		x = newPair()
		x.mustRotate(t, api.OK, set(key("a", "x")), 0, 0)
		x.mustRotate(t, api.OK, set(newer), 0, 10)
		x.mustRotate(t, api.OK, set(key("b", "y")), 0, 5)
		switch want {
		case api.OK:
			x.mustVerify(t, api.OK, 2, token("a", "x"), 4)
		case api.ErrNoKey: // it does not count
			x.mustVerify(t, api.OK, 1, token("a", "x"), 4)
		default:
			x.mustVerify(t, want, 0, token("a", "x"), 4)
		}
		x.mustVerify(t, api.OK, 1, token("a", "x"), 5)
		x.mustVerify(t, api.ErrNoKey, 0, token("a", "x"), 10)
	}
}

// Other types of key, the empty kid, and kids of any text.
func TestKids(t *testing.T) {
	t.Parallel()
	kids := []string{"", "\x00", "a", "A", "a.b", `"`, `\`, "é", "e\u0301", "\u2028", "\U0010ffff", strings.Repeat("k", 10000), `{"keys":[]}`}
	x := newPair()
	var keys []string
	for i, kid := range kids {
		keys = append(keys, key(kid, string(rune('a'+i))))
	}
	x.mustRotate(t, api.OK, set(keys...), 0, 0)
	x.mustRotate(t, api.OK, set(edKey("ed", 1)), 0, 100)
	for i, kid := range kids {
		x.mustVerify(t, api.OK, 1, token(kid, string(rune('a'+i))), int64(i))
		x.mustVerify(t, api.ErrSignature, 0, token(kid, "z"), int64(i))
		x.mustVerify(t, api.ErrNoKey, 0, token(kid+"x", "a"), int64(i))
	}
	by := api.Policy{Algs: []string{"EdDSA", "HS256"}}
	x.mustVerifyBy(t, api.OK, 2, edToken("ed", 1), by, 20)
	x.mustVerifyBy(t, api.ErrSignature, 0, edToken("ed", 2), by, 20)
	x.mustVerifyBy(t, api.ErrBinding, 0, edToken("a", 1), by, 20)
	x.mustRotate(t, api.OK, set(edKey("a", 1)), 20, 100)
	x.mustVerifyBy(t, api.OK, 3, edToken("a", 1), by, 20)
	x.mustVerifyBy(t, api.ErrBinding, 0, token("a", "c"), by, 20)
	x.mustVerifyBy(t, api.OK, 2, edToken("ed", 1), by, 20)
}

// asking: a token, a policy, and what the set askedOf says of it at a clock a little past 1000.
type asking struct {
	what  string
	token string
	p     api.Policy
	code  api.Errno
}

// askings: at least one of each code of the order of refusals.
func askings() []asking {
	policy := func(change func(p *api.Policy)) api.Policy {
		p := asked
		change(&p)
		return p
	}
	of := func(head string) string { return signed(head, me, "x") }
	says := func(pay string) string { return signed(headOf("a"), pay, "x") }
	right := token("a", "x")
	head, _, _ := strings.Cut(right, ".")
	return []asking{
		{"right", right, asked, api.OK},
		{"the leeway", right, policy(func(p *api.Policy) { p.Leeway = 601 }), api.ErrPolicy},
		{"the leeway, no token", "", policy(func(p *api.Policy) { p.Leeway = -1 }), api.ErrPolicy},
		{"too long", right + strings.Repeat("A", 65537-len(right)), asked, api.ErrLarge},
		{"too long, no dots", strings.Repeat("A", 65537), asked, api.ErrLarge},
		{"nothing", "", asked, api.ErrDots},
		{"one dot", "a.b", asked, api.ErrDots},
		{"three dots", right + ".", asked, api.ErrDots},
		{"the header's signs", "!" + right, asked, api.ErrSign},
		{"the header's signs", head + "=..", asked, api.ErrSign},
		{"the header's length", "A..", asked, api.ErrLen},
		{"the header's bits", "YR..", asked, api.ErrBits},
		{"no header", "..", asked, api.ErrJson},
		{"a header twice", of(`{"alg":"HS256","kid":"a","kid":"a"}`), asked, api.ErrTwice},
		{"no header", of(`{}`), asked, api.ErrHeader},
		{"a header without a kid", of(`{"alg":"HS256"}`), asked, api.ErrHeader},
		{"a header with more", of(`{"alg":"HS256","kid":"a","crit":["exp"]}`), asked, api.ErrHeader},
		{"a kid that is none", of(`{"alg":"HS256","kid":1}`), asked, api.ErrHeader},
		{"none", of(`{"alg":"none","kid":"a"}`), policy(func(p *api.Policy) { p.Algs = []string{"none", "HS256"} }), api.ErrAlg},
		{"barred", right, policy(func(p *api.Policy) { p.Algs = []string{"HS384"} }), api.ErrBarred},
		{"no alg at all", right, api.Policy{}, api.ErrBarred},
		{"typ", right, policy(func(p *api.Policy) { p.HasTyp = true }), api.ErrTyp},
		{"a typ", of(`{"typ":"JWT","kid":"a","alg":"HS256"}`), policy(func(p *api.Policy) { p.HasTyp, p.Typ = true, "JWT" }), api.OK},
		{"another kid", token("other", "x"), asked, api.ErrNoKey},
		{"a kid twice", token("twice", "x"), asked, api.ErrKeys},
		{"another type", token("ed", "x"), asked, api.ErrBinding},
		{"another type, the signature no base64url", signs(headOf("ed")) + ".!.!", asked, api.ErrBinding},
		{"a secret member", token("private", "x"), policy(func(p *api.Policy) { p.Algs = []string{"RS256", "HS256"} }), api.ErrBinding},
		{"a private member", of(`{"alg":"RS256","kid":"private"}`), policy(func(p *api.Policy) { p.Algs = []string{"RS256"} }), api.ErrSecret},
		{"no k", token("less", "x"), asked, api.ErrMember},
		{"a short k", token("short", "x"), asked, api.ErrKey},
		{"the signature's signs", head + "..!", asked, api.ErrSign},
		{"the signature's length", head + ".!.A", asked, api.ErrLen},
		{"the signature's bits", head + ".A.YR", asked, api.ErrBits},
		{"no signature", right[:strings.LastIndex(right, ".")+1], asked, api.ErrSignature},
		{"another signature", token("a", "y"), asked, api.ErrSignature},
		{"the payload's signs", tag(head+".=", "x"), asked, api.ErrSign},
		{"the payload's length", tag(head+".A", "x"), asked, api.ErrLen},
		{"the payload's bits", tag(head+".YR", "x"), asked, api.ErrBits},
		{"no payload", says(``), asked, api.ErrJson},
		{"no object", says(`[]`), asked, api.ErrClaims},
		{"no claim", says(`{"sub":1}`), asked, api.ErrClaim},
		{"a claim is missing", says(me), policy(func(p *api.Policy) { p.Need = []string{"jti"} }), api.ErrMissing},
		{"the issuer", says(`{"iss":"b"}`), policy(func(p *api.Policy) { p.HasIss, p.Iss = true, "a" }), api.ErrIss},
		{"the audience", says(`{"aud":"b"}`), asked, api.ErrAud},
		{"ended", says(`{"exp":1000}`), asked, api.ErrExpired},
		{"too early", says(`{"nbf":9000}`), asked, api.ErrEarly},
		{"of the future", says(`{"iat":9000}`), asked, api.ErrFuture},
		{"with a leeway", says(`{"sub":"me","exp":1000}`), policy(func(p *api.Policy) { p.Leeway = 600 }), api.OK},
	}
}

// askedOf: the set under whose kids the askings stand.
var askedOf = set(key("a", "x"), key("twice", "x"), key("twice", "y"), edKey("ed", 1), `{"kty":"RSA","kid":"private","n":"","e":"","d":""}`, `{"kty":"oct","kid":"less"}`, `{"kty":"oct","kid":"short","k":"AAAA"}`)

// withoutKeys: what is answered where no live set has the kid.
func withoutKeys(a asking) api.Errno {
	_, code := jwt.Verify(a.token, `{"keys":[]}`, a.p, 1000)
	return code
}

// 24.2: each code of jwt.Verify comes through, by the newest set, by the oldest of eight, and without a set that has the kid; the clock moves with each.
func TestEachCode(t *testing.T) {
	t.Parallel()
	newest, oldest, none, empty := newPair(), newPair(), newPair(), newPair()
	newest.mustRotate(t, api.OK, set(key("a", "y")), 0, 0)
	newest.mustRotate(t, api.OK, askedOf, 1000, 1<<32)
	oldest.mustRotate(t, api.OK, askedOf, 0, 0)
	for i := range 7 {
		oldest.mustRotate(t, api.OK, set(key(strings.Repeat("n", i), "x")), 1000, 1<<32)
	}
	none.mustRotate(t, api.OK, askedOf, 0, 0)
	none.mustRotate(t, api.OK, set(key("b", "x")), 1000, 0)
	for i, a := range askings() {
		now := 1001 + int64(i)
		for version, x := range map[int64]*pair{2: newest, 1: oldest} {
			if a.code != api.OK {
				version = 0
			}
			_, got, code := x.verify(t, a.token, a.p, now)
			if code != a.code || got != version {
				t.Fatalf("24.2: %s: %d, %d, want %d, %d", a.what, got, int(code), version, int(a.code))
			}
		}
		for _, x := range []*pair{none, empty} {
			if _, _, code := x.verify(t, a.token, a.p, now); code != withoutKeys(a) {
				t.Fatalf("24.2: %s: %d, want %d", a.what, int(code), int(withoutKeys(a)))
			}
		}
		for _, x := range []*pair{newest, oldest, none, empty} {
			x.mustRotate(t, api.ErrBack, set(), now-1, 0) // P4: the clock has moved
		}
	}
	met := map[api.Errno]bool{}
	for _, a := range askings() {
		met[a.code] = true
	}
	if len(met) != 28 {
		t.Errorf("%d codes are asked for", len(met))
	}
}

// 24.2: ErrBack is ahead of all else, and changes nothing.
func TestBackFirst(t *testing.T) {
	t.Parallel()
	x := newPair()
	x.mustRotate(t, api.OK, askedOf, 1000, 0)
	for _, a := range askings() {
		for _, now := range []int64{low, 0, 999} {
			if _, _, code := x.verify(t, a.token, a.p, now); code != api.ErrBack {
				t.Fatalf("24.2: %s, at %d: %d", a.what, now, int(code))
			}
		}
		x.mustVerify(t, api.OK, 1, token("a", "x"), 1000)
	}
}

// What ends by a Verify ends for good, whatever the Verify answers.
func TestVerifyEnds(t *testing.T) {
	t.Parallel()
	for _, a := range askings() {
		x := newPair()
		x.mustRotate(t, api.OK, askedOf, 0, 0)
		x.mustRotate(t, api.OK, set(key("b", "y")), 0, 1000)
		x.verify(t, a.token, a.p, 999)
		x.mustTell(t, 0, 2, 1)
		x.verify(t, a.token, a.p, 1000)
		x.mustTell(t, 0, 2)
		x.mustDrop(t, api.ErrVersion, 1)
		x.mustVerify(t, api.ErrNoKey, 0, token("a", "x"), 1000)
		x.mustVerify(t, api.OK, 2, token("b", "y"), 1000)
	}
}

// T8: a token that was taken ahead of a Rotate is taken for the whole grace, by its set, as long as its own times allow.
func TestWholeGrace(t *testing.T) {
	t.Parallel()
	timed := signed(headOf("a"), `{"sub":"me","nbf":5,"exp":40}`, "x")
	x := newPair()
	x.mustRotate(t, api.OK, set(key("a", "x")), 0, 0)
	x.mustVerify(t, api.ErrEarly, 0, timed, 4)
	x.mustVerify(t, api.OK, 1, timed, 5)
	x.mustRotate(t, api.OK, set(key("b", "y")), 10, 50)
	for now := int64(10); now < 60; now++ {
		if now%7 == 0 {
			x.mustRotate(t, api.OK, set(key("c", "z")), now, 7)
		}
		x.mustVerify(t, api.OK, 1, token("a", "x"), now)
		if now < 40 {
			x.mustVerify(t, api.OK, 1, timed, now)
		} else {
			x.mustVerify(t, api.ErrExpired, 0, timed, now)
		}
	}
	x.mustVerify(t, api.ErrNoKey, 0, token("a", "x"), 60)
	x.mustVerify(t, api.ErrNoKey, 0, timed, 60)
}
