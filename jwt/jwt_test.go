package jwt_test

import (
	"strings"
	"testing"

	"signet/api"
	"signet/jws"
	"signet/jwt"
)

// The chapter's examples.
func TestExamples(t *testing.T) {
	t.Parallel()
	p := api.Policy{Algs: []string{"HS256"}}
	mustVerify(t, "example", api.ErrPolicy, "", "", api.Policy{Leeway: 601}, 0)
	mustVerify(t, "example", api.ErrLarge, strings.Repeat("a", 65537), "", p, 0)
	mustVerify(t, "example", api.ErrDots, strings.Repeat("a", 65536), "", p, 0)
	mustVerify(t, "example", api.ErrDots, "a.b", "", p, 0)
	mustVerify(t, "example", api.ErrDots, "", "", p, 0)
	mustVerify(t, "example", api.ErrDots, "a.b.c.d", "", p, 0)
	mustVerify(t, "example", api.ErrSign, "!..", "", p, 0)
	mustVerify(t, "example", api.ErrJson, "..", "", p, 0)
	mustVerify(t, "example", api.ErrHeader, "e30..", "", p, 0)
	for _, leeway := range []int64{low, low + 1, -1 << 32, -1, 601, 1 << 32, 1<<32 + 5, high} {
		mustVerify(t, "no leeway", api.ErrPolicy, strings.Repeat(".", 70000), strings.Repeat("x", 300000), api.Policy{Leeway: leeway}, 0)
	}
}

// padded: a plan whose token has just so many bytes: blanks stand behind the payload's text, and as many more letters in its jti as make the length one that base64url has.
func padded(t *testing.T, c row, length int) *plan {
	t.Helper()
	for more := range 3 {
		p := right(c)
		p.pay = put(p.pay, "jti", quoted(strings.Repeat("j", more+1)))
		p.head = put(p.head, "kid", quoted(strings.Repeat("k", more+1)))
		p.key = put(p.key, "kid", quoted(strings.Repeat("k", more+1)))
		for short := length - len(p.token()); short > 0; short = length - len(p.token()) {
			p.payEnd += strings.Repeat(" ", max(1, short*3/4-2))
		}
		if len(p.token()) == length {
			return p
		}
	}
	t.Fatalf("no token of %d bytes", length)
	return nil
}

// At MaxToken a token is taken; one past it, it is too large, whatever else is wrong with it.
func TestMaxToken(t *testing.T) {
	t.Parallel()
	for _, c := range []row{rows[0], rows[6], rows[9], rows[11]} {
		for length, code := range map[int]api.Errno{65534: api.OK, 65535: api.OK, 65536: api.OK, 65537: api.ErrLarge, 65538: api.ErrLarge} {
			mustPlan(t, "a long token", code, padded(t, c, length))
		}
	}
	p := right(rows[0])
	mustVerify(t, "a dot too many, at MaxToken", api.ErrDots, p.token()+"."+strings.Repeat("A", 65535-len(p.token())), p.keys(), p.policy, p.now)
	mustVerify(t, "a dot too many, past MaxToken", api.ErrLarge, p.token()+"."+strings.Repeat("A", 65536-len(p.token())), p.keys(), p.policy, p.now)
}

// At MaxKeys a key set is taken; one past it, it is too large.
func TestMaxKeys(t *testing.T) {
	t.Parallel()
	for _, c := range []row{rows[1], rows[11]} {
		for length, code := range map[int]api.Errno{262143: api.OK, 262144: api.OK, 262145: api.ErrLarge} {
			p := right(c)
			p.setEnd = strings.Repeat("\n", length-len(p.keys()))
			mustPlan(t, "blanks behind a set", code, p)
			p = right(c)
			p.others = []string{object(member{"kty", `"oct"`}, member{"x", `""`})}
			p.others[0] = strings.Replace(p.others[0], `""`, quoted(strings.Repeat("x", length-len(p.keys()))), 1)
			mustPlan(t, "a long key beside", code, p)
		}
	}
	p := right(rows[0])
	mustVerify(t, "no token, and a set at MaxKeys", api.ErrDots, "", p.keys()+strings.Repeat(" ", 262144-len(p.keys())), p.policy, p.now)
	mustVerify(t, "no token, and a set past MaxKeys", api.ErrLarge, "", p.keys()+strings.Repeat(" ", 262145-len(p.keys())), p.policy, p.now)
}

// At MaxDepth values are read; one past it they are not.
func TestMaxDepth(t *testing.T) {
	t.Parallel()
	for depth, code := range map[int]api.Errno{1: api.OK, 31: api.OK, 32: api.ErrDeep} {
		p := right(rows[11])
		p.pay = put(p.pay, "x", deep(depth))
		mustPlan(t, "a deep payload", code, p)
	}
	for depth, code := range map[int]api.Errno{1: api.OK, 29: api.OK, 30: api.ErrDeep} {
		p := right(rows[11])
		p.key = put(p.key, "more", deep(depth))
		mustPlan(t, "a deep key", code, p)
	}
}

// Secrets at their bounds: MinSecret and MaxSecret are the key's, the hash's length the signature's.
func TestSecrets(t *testing.T) {
	t.Parallel()
	for _, c := range rows[:3] {
		for n, code := range map[int]api.Errno{0: api.ErrKey, 31: api.ErrKey, c.size - 1: api.ErrKey, c.size: api.OK, c.size + 1: api.OK, 200: api.OK, 4096: api.OK, 4097: api.ErrKey} {
			mustPlan(t, c.name, code, right(c).signedBy(octSigner(n)))
		}
		p := right(c).signedBy(octSigner(c.size - 1))
		p.sigRaw = "="
		code := api.ErrSign // the hash's length is asked behind the signature's signs
		if c.size == 32 {
			code = api.ErrKey // MinSecret ahead of them
		}
		mustPlan(t, c.name+", a short secret and a sign that is none", code, p)
	}
}

// RSA keys at their bounds.
func TestModuli(t *testing.T) {
	t.Parallel()
	c := rows[3]
	p := right(c)
	for _, n := range []string{`""`, `"AQ"`, quoted("A" + strings.Repeat("A", 341)), quoted(strings.Repeat("_", 342)), quoted("AP" + strings.Repeat("_", 341))} {
		p.key = put(p.key, "n", n)
		if _, code := hold(t, p.token(), p.keys(), p.policy, p.now); code == api.OK {
			t.Fatalf("20.1: a token is taken under the modulus %s", n)
		}
	}
	for _, e := range []string{`""`, `"AQ"`, `"Ag"`, `"AAEAAQ"`, `"AQAAAAE"`, `"AQAA"`} {
		p = right(c)
		p.key = put(p.key, "e", e)
		mustPlan(t, "the exponent "+e, api.ErrKey, p)
	}
	p = right(c).signedBy(rsaSigner(4096))
	mustPlan(t, "4096 bits", api.OK, p)
}

// 20.3: every clock of a small world, and the ends of all clocks.
func TestClocks(t *testing.T) {
	t.Parallel()
	c := rows[0]
	texts := []string{"", "0", "3", "-4", "9223372036854775807", "-9223372036854775808"}
	for _, exp := range texts {
		for _, nbf := range texts {
			for _, iat := range texts {
				p := right(c)
				p.policy.Need = nil
				for name, text := range map[string]string{"exp": exp, "nbf": nbf, "iat": iat} {
					p.pay = without(p.pay, name)
					if text != "" {
						p.pay = put(p.pay, name, text)
					}
				}
				token, keys := p.token(), p.keys()
				for _, leeway := range []int64{0, 2, 600} {
					p.policy.Leeway = leeway
					hold(t, token, keys, p.policy, 0)
					said, w, judged := jwt.Judge(token, keys, p.policy)
					for _, now := range []int64{low, low + 1, low + 2, low + 600, -7, -6, -5, -4, -3, -1, 0, 1, 2, 4, 5, 6, high - 601, high - 600, high - 2, high - 1, high, w.From - 1, w.From, w.To, w.To + 1} {
						holdAt(t, token, keys, p.policy, now, said, w, judged)
					}
				}
			}
		}
	}
}

// The clock counts behind all else: what is refused is refused with one code at all clocks.
func TestRefusedAtAllClocks(t *testing.T) {
	t.Parallel()
	c := rows[0]
	for _, f := range faults(c) {
		if f.rank >= 27 {
			continue
		}
		p := right(c)
		f.spoil(p)
		token, keys := p.token(), p.keys()
		said, w, judged := jwt.Judge(token, keys, p.policy)
		if judged != f.code {
			t.Fatalf("20.2: %s: %d", f.name, int(judged))
		}
		for _, now := range []int64{low, -1, 0, 989, 990, 1500, 2009, 2010, high} {
			holdAt(t, token, keys, p.policy, now, said, w, judged)
		}
	}
}

// A window may be empty: Judge takes such a token, Verify does at no clock.
func TestEmptyWindow(t *testing.T) {
	t.Parallel()
	p := right(rows[9])
	p.pay = put(p.pay, "exp", "10")
	c, w, code := jwt.Judge(p.token(), p.keys(), p.policy)
	if code != api.OK || w != (api.Window{Empty: true}) || c.Exp.At != 10 || len(c.Value) == 0 {
		t.Fatalf("20.2: %s, %+v, %d", short(c), w, int(code))
	}
	for now, want := range map[int64]api.Errno{low: api.ErrEarly, 0: api.ErrEarly, 19: api.ErrEarly, 20: api.ErrExpired, 1500: api.ErrExpired, high: api.ErrExpired} {
		p.now = now
		mustPlan(t, "an empty window", want, p)
	}
}

// What Decode and Compact of layer 18 make of a token that is taken: itself; and what they make of the claims' texts.
func TestThereAndBack(t *testing.T) {
	t.Parallel()
	for _, c := range rows {
		p := right(c)
		head, pay, sig, code := jws.Decode(p.token())
		if code != api.OK || string(head) != object(p.head...) || string(pay) != object(p.pay...) {
			t.Fatalf("%s: %q, %q, %d", c.name, head, pay, int(code))
		}
		again, _ := jws.Compact(head, pay, sig)
		mustVerify(t, "there and back", api.OK, again, p.keys(), p.policy, p.now)
	}
}
