package gate_test

import (
	"strconv"
	"strings"
	"testing"

	"signet/api"
)

// tickets: so many tokens of that exp, with jtis that begin with a word.
func tickets(word string, count int, exp int64) []string {
	var l []string
	for i := range count {
		l = append(l, ticket(by("joe"), word+strconv.Itoa(i), exp))
	}
	return l
}

// full: a gate with 4096 names: old0 .. that end behind 199, and long0 .. that end behind 1199; the clock is 100.
func full(t *testing.T, rule string) *pair {
	t.Helper()
	x := openWith(t, 0, rule)
	for i, v := range x.batch(t, append(tickets("old", 96, 200), tickets("long", 4000, 1200)...), 100) {
		if v.Code != api.OK {
			t.Fatalf("26.3: token %d is refused with %d", i, int(v.Code))
		}
	}
	x.mustLen(t, 4096)
	return x
}

// fault: what is wrong with a token, or with its time.
type fault int

const (
	back fault = 1 << iota
	forged
	denied
	noJti
	noExp
	large
	replayed
	allFaults
)

// token: one with these faults; fresh is a jti that has not come.
func (f fault) token(fresh string) string {
	pay := `{"a":[]`
	if f&denied != 0 {
		pay += `,"bad":null`
	}
	switch {
	case f&noJti != 0:
	case f&replayed != 0:
		pay += `,"jti":"long7"`
	default:
		pay += `,"jti":` + quoted(fresh)
	}
	if f&noExp == 0 {
		pay += `,"exp":900`
	}
	iss := "joe"
	if f&large != 0 {
		iss = strings.Repeat("joe", 400)
	}
	letter := "x"
	if f&forged != 0 {
		letter = "y"
	}
	return signed(headOf("k"), pay+`,"iss":`+quoted(iss)+"}", letter)
}

// code: that of the first fault.
func (f fault) code(full bool) api.Errno {
	for _, c := range []struct {
		of   fault
		code api.Errno
	}{{back, api.ErrBack}, {forged, api.ErrSignature}, {denied, api.ErrDenied}, {noJti, api.ErrMissing}, {noExp, api.ErrMissing}, {large, api.ErrLarge}, {replayed, api.ErrReplay}} {
		if f&c.of != 0 {
			return c.code
		}
	}
	if full {
		return api.ErrFull
	}
	return api.OK
}

// 26.3: every choice of reasons to refuse: the first one counts, and nothing is changed.
func TestOrder(t *testing.T) {
	t.Parallel()
	x, y := full(t, "not has bad"), openWith(t, 0, "not has bad")
	y.mustTake(t, api.OK, ticket(by("joe"), "long7", 1200), 100)
	for _, z := range []*pair{x, y} {
		for f := range allFaults {
			now := int64(100)
			if f&back != 0 {
				now--
			}
			z.mustTake(t, f.code(z == x), f.token("new"+strconv.Itoa(int(f))), now)
			z.mustBatch(t, []string{f.token("more" + strconv.Itoa(int(f)))}, now, f.code(z == x))
		}
	}
	x.mustLen(t, 4096)
	y.mustLen(t, 3)
}

// MaxReplay names and no more, until some of them end.
func TestFull(t *testing.T) {
	t.Parallel()
	x := full(t, "")
	fresh := tickets("new", 200, 1200)
	x.mustTake(t, api.ErrFull, fresh[0], 100)
	x.mustTake(t, api.ErrReplay, ticket(by("joe"), "old3", 1200), 100)
	x.mustTake(t, api.ErrFull, ticket(by(), "old3", 1200), 199)
	x.mustLen(t, 4096)
	x.mustTake(t, api.ErrExpired, ticket(by("joe"), "old3", 200), 200)
	x.mustLen(t, 4096)
	x.mustTake(t, api.OK, fresh[1], 200)
	x.mustLen(t, 4001)
	codes := map[api.Errno]int{}
	for _, v := range x.batch(t, fresh, 200) {
		codes[v.Code]++
	}
	if codes[api.OK] != 95 || codes[api.ErrReplay] != 1 || codes[api.ErrFull] != 104 {
		t.Errorf("26.4: %v", codes)
	}
	x.mustLen(t, 4096)
	x.mustTake(t, api.OK, ticket(by("joe"), "long3", 9000), 1200)
	x.mustLen(t, 1)
}

// Names that never die fill a gate for good.
func TestFullForEver(t *testing.T) {
	t.Parallel()
	x := open(t, 1)
	for i, v := range x.batch(t, tickets("a", 4097, high), -5) {
		want := api.OK
		if i == 4096 {
			want = api.ErrFull
		}
		if v.Code != want {
			t.Fatalf("26.4: token %d: %d", i, int(v.Code))
		}
	}
	for _, now := range []int64{-5, 0, high - 1, high} {
		x.mustTake(t, api.ErrFull, ticket(by("joe"), "b", high), now)
		x.mustTake(t, api.ErrReplay, ticket(by("joe"), "a4095", high), now)
	}
	x.mustRotate(t, api.OK, usual, high, 0)
	x.mustTake(t, api.ErrFull, ticket(by("joe"), "b", high), high)
	x.mustLen(t, 4096)
}

// The ring's codes, each ahead of the gate's own.
func TestRingFirst(t *testing.T) {
	t.Parallel()
	p := asked
	p.Leeway, p.Need = 5, []string{"sub"}
	x := mustNew(t, p, "has nothing")
	x.mustRotate(t, api.OK, set(key("k", "x"), key("two", "x"), key("two", "y"), `{"kty":"oct","kid":"bad","k":"!"}`, `{"kty":"OKP","crv":"Ed25519","kid":"ed"}`), 0, 0)
	sub := `,"sub":""`
	for i, c := range []struct {
		token string
		want  api.Errno
	}{
		{strings.Repeat(".", 65537), api.ErrLarge}, {"..", api.ErrJson}, {".", api.ErrDots}, {"!..", api.ErrSign}, {signs(`{}`) + "..", api.ErrHeader}, {signs(`{"alg":"none","kid":"k"}`) + "..", api.ErrAlg},
		{signs(`{"alg":"HS512","kid":"k"}`) + "..", api.ErrBarred}, {signed(headOf("no"), claim(nil, "a", 9, sub), "x"), api.ErrNoKey}, {signed(headOf("two"), claim(nil, "a", 9, sub), "x"), api.ErrKeys},
		{signed(headOf("ed"), claim(nil, "a", 9, sub), "x"), api.ErrBinding}, {signed(headOf("bad"), claim(nil, "a", 9, sub), "x"), api.ErrKey}, {signed(headOf("k"), claim(nil, "a", 9, sub), "y"), api.ErrSignature},
		{pays("{"), api.ErrJson}, {pays(`[]`), api.ErrClaims}, {pays(`{"jti":1,"exp":9,"sub":""}`), api.ErrClaim}, {pays(`{"jti":"a","exp":9}`), api.ErrMissing}, {pays(`{"jti":"a","jti":"a","exp":9,"sub":""}`), api.ErrTwice},
		{ticket(nil, "a", 9, sub, `,"aud":"x"`), api.ErrAud}, {ticket(nil, "a", 0, sub), api.ErrExpired}, {ticket(nil, "a", 900, sub, `,"nbf":300`), api.ErrEarly}, {ticket(nil, "a", 900, sub, `,"iat":300`), api.ErrFuture},
		{ticket(nil, "a", 900, sub), api.ErrDenied}, {pays(`{"sub":""}`), api.ErrDenied},
	} {
		x.mustTake(t, c.want, c.token, 5)
		x.mustBatch(t, []string{c.token, c.token}, int64(6+i), c.want, c.want)
		x.mustTake(t, api.ErrBack, c.token, 5+int64(i))
		x = x.again(t, p, "has nothing")
	}
}

// again: a new gate of the same, told the same Rotates.
func (x *pair) again(t *testing.T, p api.Policy, rule string) *pair {
	t.Helper()
	y := mustNew(t, p, rule)
	for _, s := range x.slow.steps {
		if s.rotated {
			y.mustRotate(t, api.OK, s.keys, s.now, s.grace)
		}
	}
	return y
}
