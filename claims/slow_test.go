package claims_test

import (
	"fmt"
	"math"
	"math/big"
	"reflect"
	"regexp"
	"slices"
	"testing"

	"signet/api"
	"signet/claims"
	"signet/json"
)

// The chapter's words, written out case by case.

const low, high = math.MinInt64, math.MaxInt64

// registered: the names that want a kind.
var registered = []string{"iss", "sub", "aud", "jti", "exp", "nbf", "iat"}

var wholeSpelling = regexp.MustCompile(`^-?(0|[1-9][0-9]*)$`)

// wantWhole: the number of a text that is spelled as a whole one, if it is an int64.
func wantWhole(spelled string) (int64, bool) {
	if !wholeSpelling.MatchString(spelled) {
		return 0, false
	}
	n, _ := new(big.Int).SetString(spelled, 10)
	return n.Int64(), n.IsInt64()
}

// behind: the place behind the value that begins at a place of a well shaped one.
func behind(v []api.Node, at int) int {
	next := at + 1
	for range v[at].Kids {
		next = behind(v, next)
	}
	return next
}

// inside: the values directly in the first one, each with all that stands in it.
func inside(v []api.Node) [][]api.Node {
	var out [][]api.Node
	at := 1
	for range v[0].Kids {
		end := behind(v, at)
		out = append(out, v[at:end])
		at = end
	}
	return out
}

func wantParse(payload string) (api.Claims, api.Errno) {
	v, code, _ := json.Parse(payload)
	if code != api.OK {
		return api.Claims{}, code
	}
	if v[0].Kind != api.Object {
		return api.Claims{}, api.ErrClaims
	}
	c := api.Claims{Value: v}
	for _, m := range inside(v) {
		if !wantClaim(&c, m) {
			return api.Claims{}, api.ErrClaim
		}
	}
	return c, api.OK
}

// wantClaim: one member's part of the claims; false, if it is of the wrong kind.
func wantClaim(c *api.Claims, m []api.Node) bool {
	isText := m[0].Kind == api.String
	n, whole := int64(0), false
	if m[0].Kind == api.Number {
		n, whole = wantWhole(m[0].Text)
	}
	switch m[0].Key {
	case "iss":
		c.Iss, c.HasIss = m[0].Text, true
		return isText
	case "sub":
		c.Sub, c.HasSub = m[0].Text, true
		return isText
	case "jti":
		c.Jti, c.HasJti = m[0].Text, true
		return isText
	case "exp":
		c.Exp = api.Time{Has: true, At: n}
		return whole
	case "nbf":
		c.Nbf = api.Time{Has: true, At: n}
		return whole
	case "iat":
		c.Iat = api.Time{Has: true, At: n}
		return whole
	case "aud":
		c.HasAud = true
		if isText {
			c.Aud = []string{m[0].Text}
			return true
		}
		for _, x := range inside(m) {
			if x[0].Kind != api.String {
				return false
			}
			c.Aud = append(c.Aud, x[0].Text)
		}
		return m[0].Kind == api.List
	}
	return true
}

// wantCheck: of claims whose value is well shaped.
func wantCheck(c api.Claims, p api.Policy) api.Errno {
	for _, name := range p.Need {
		there := false
		if c.Value[0].Kind == api.Object {
			for _, m := range inside(c.Value) {
				there = there || m[0].Key == name
			}
		}
		if !there {
			return api.ErrMissing
		}
	}
	if p.HasIss && (!c.HasIss || c.Iss != p.Iss) {
		return api.ErrIss
	}
	if p.HasAud {
		if !c.HasAud {
			return api.ErrAud
		}
		for _, a := range c.Aud {
			if a == p.Aud {
				return api.OK
			}
		}
		return api.ErrAud
	}
	if c.HasAud {
		return api.ErrAud
	}
	return api.OK
}

func sum(a, b int64) *big.Int { return new(big.Int).Add(big.NewInt(a), big.NewInt(b)) }

func wantClock(c api.Claims, leeway, now int64) api.Errno {
	n := big.NewInt(now)
	switch {
	case leeway < 0 || leeway > 600:
		return api.ErrPolicy
	case c.Exp.Has && n.Cmp(sum(c.Exp.At, leeway)) >= 0:
		return api.ErrExpired
	case c.Nbf.Has && n.Cmp(sum(c.Nbf.At, -leeway)) < 0:
		return api.ErrEarly
	case c.Iat.Has && n.Cmp(sum(c.Iat.At, -leeway)) < 0:
		return api.ErrFuture
	}
	return api.OK
}

func wantOpen(c api.Claims, leeway int64) (api.Window, api.Errno) {
	if leeway < 0 || leeway > 600 {
		return api.Window{}, api.ErrPolicy
	}
	from, to := big.NewInt(low), big.NewInt(high)
	for _, m := range []api.Time{c.Nbf, c.Iat} {
		if least := sum(m.At, -leeway); m.Has && least.Cmp(from) > 0 {
			from = least
		}
	}
	if most := sum(c.Exp.At, leeway); c.Exp.Has && most.Cmp(to) <= 0 {
		to = most.Sub(most, big.NewInt(1))
	}
	if from.Cmp(to) > 0 {
		return api.Window{Empty: true}, api.OK
	}
	return api.Window{From: from.Int64(), To: to.Int64()}, api.OK
}

// Asking, with every answer held against the chapter's words, P4, and what follows from the answer.

func short(x any) string { return fmt.Sprintf("%.600q", fmt.Sprintf("%+v", x)) }

// fields: the claims without the value, and with an empty list for none.
func fields(c api.Claims) api.Claims {
	c.Value, c.Aud = nil, append([]string{}, c.Aud...)
	return c
}

func same(a, b api.Claims) bool {
	return slices.Equal(a.Value, b.Value) && reflect.DeepEqual(fields(a), fields(b))
}

func holdParse(t *testing.T, payload string) (api.Claims, api.Errno) {
	t.Helper()
	want, wantCode := wantParse(payload)
	c, code := claims.Parse(payload)
	if code != wantCode || !same(c, want) {
		t.Fatalf("19.1: Parse(%s) = %s, %d, want %s, %d", short(payload), short(c), int(code), short(want), int(wantCode))
	}
	if code != api.OK {
		if !reflect.ValueOf(c).IsZero() {
			t.Fatalf("P4: Parse(%s) refuses, and answers %s", short(payload), short(c))
		}
		return c, code
	}
	shortest, _ := json.Print(c.Value)
	if again, code := claims.Parse(shortest); code != api.OK || !same(again, c) {
		t.Fatalf("19.7: Parse(%s) = %s, %d, and of its shortest text %s", short(payload), short(c), int(code), short(again))
	}
	holdAlone(t, c)
	return c, api.OK
}

// holdAlone: the seven alone, and in another order, have the same fields.
func holdAlone(t *testing.T, c api.Claims) {
	t.Helper()
	alone := []api.Node{{Kind: api.Object}}
	members := inside(c.Value)
	slices.Reverse(members)
	for _, m := range members {
		if slices.Contains(registered, m[0].Key) {
			alone[0].Kids++
			alone = append(alone, m...)
		}
	}
	text, printed := json.Print(alone)
	got, code := claims.Parse(text)
	if printed != api.OK || code != api.OK || !same(got, api.Claims{Value: alone, Iss: c.Iss, HasIss: c.HasIss, Sub: c.Sub, HasSub: c.HasSub, Aud: c.Aud, HasAud: c.HasAud, Jti: c.Jti, HasJti: c.HasJti, Exp: c.Exp, Nbf: c.Nbf, Iat: c.Iat}) {
		t.Fatalf("19.7: the registered members of %s alone have other fields: %s, %d", short(c), short(got), int(code))
	}
}

func holdCheck(t *testing.T, c api.Claims, p api.Policy) api.Errno {
	t.Helper()
	code := claims.Check(c, p)
	if want := wantCheck(c, p); code != want {
		t.Fatalf("19.2: Check(%s, %s) = %d, want %d", short(c), short(p), int(code), int(want))
	}
	for i := range p.Need {
		if code != api.OK {
			break
		}
		fewer := p
		fewer.Need = slices.Delete(slices.Clone(p.Need), i, i+1)
		if code := claims.Check(c, fewer); code != api.OK {
			t.Fatalf("T9: Check(%s) with one Need less of %s = %d", short(c), short(p), int(code))
		}
	}
	return code
}

func holdClock(t *testing.T, c api.Claims, leeway, now int64) api.Errno {
	t.Helper()
	code := claims.Clock(c, leeway, now)
	if want := wantClock(c, leeway, now); code != want {
		t.Fatalf("19.3: Clock(%s, %d, %d) = %d, want %d", short(c), leeway, now, int(code), int(want))
	}
	w, opened := claims.Open(c, leeway)
	if opened == api.OK && (code == api.OK) != (!w.Empty && w.From <= now && now <= w.To) {
		t.Fatalf("19.5: Clock(%s, %d, %d) = %d, and the window is %+v", short(c), leeway, now, int(code), w)
	}
	if (opened == api.OK) != (code != api.ErrPolicy) {
		t.Fatalf("19.4: Clock(%s, %d, %d) = %d, and Open %d", short(c), leeway, now, int(code), int(opened))
	}
	return code
}

// holdOpen: the window, and the clocks at and next to its ends.
func holdOpen(t *testing.T, c api.Claims, leeway int64) (api.Window, api.Errno) {
	t.Helper()
	w, code := claims.Open(c, leeway)
	if want, wantCode := wantOpen(c, leeway); code != wantCode || w != want {
		t.Fatalf("19.4: Open(%s, %d) = %+v, %d, want %+v, %d", short(c), leeway, w, int(code), want, int(wantCode))
	}
	for _, now := range []int64{low, low + 1, -1, 0, 1, high - 1, high, w.From, w.From - 1, w.From + 1, w.To, w.To - 1, w.To + 1} {
		holdClock(t, c, leeway, now)
	}
	holdWider(t, c, leeway, w)
	return w, code
}

// holdWider: a longer leeway, and fewer time claims, shut out no clock that was let by.
func holdWider(t *testing.T, c api.Claims, leeway int64, w api.Window) {
	t.Helper()
	wider := func(fewer api.Claims, longer int64) {
		t.Helper()
		if got, _ := claims.Open(fewer, longer); got.Empty || got.From > w.From || got.To < w.To {
			t.Fatalf("19.5: Open(%s, %d) = %+v, and with fewer claims or a longer leeway %+v", short(c), leeway, w, got)
		}
	}
	if w.Empty || leeway < 0 || leeway > 600 {
		return
	}
	for _, longer := range []int64{leeway, min(leeway+1, 600), 600} {
		wider(c, longer)
		for mask := range 8 {
			fewer := c
			for i, m := range []*api.Time{&fewer.Exp, &fewer.Nbf, &fewer.Iat} {
				if mask>>i&1 != 0 {
					*m = api.Time{}
				}
			}
			wider(fewer, longer)
		}
	}
}

func mustParse(t *testing.T, want api.Errno, payload string) api.Claims {
	t.Helper()
	if _, code := claims.Parse(payload); code != want {
		t.Fatalf("19.1: Parse(%s) = %d, want %d", short(payload), int(code), int(want))
	}
	c, _ := holdParse(t, payload)
	return c
}

// mustSay: the fields that a payload must have; the value apart.
func mustSay(t *testing.T, payload string, want api.Claims) {
	t.Helper()
	if c, code := claims.Parse(payload); code != api.OK || !reflect.DeepEqual(fields(c), fields(want)) {
		t.Fatalf("19.1: Parse(%s) = %s, %d, want %s", short(payload), short(c), int(code), short(want))
	}
	holdParse(t, payload)
}

func mustCheck(t *testing.T, want api.Errno, c api.Claims, p api.Policy) {
	t.Helper()
	if code := claims.Check(c, p); code != want {
		t.Fatalf("19.2: Check(%s, %s) = %d, want %d", short(c), short(p), int(code), int(want))
	}
	holdCheck(t, c, p)
}

func mustClock(t *testing.T, want api.Errno, c api.Claims, leeway, now int64) {
	t.Helper()
	if code := claims.Clock(c, leeway, now); code != want {
		t.Fatalf("19.3: Clock(%s, %d, %d) = %d, want %d", short(c), leeway, now, int(code), int(want))
	}
	holdClock(t, c, leeway, now)
}

func mustOpen(t *testing.T, want api.Window, c api.Claims, leeway int64) {
	t.Helper()
	if w, code := claims.Open(c, leeway); code != api.OK || w != want {
		t.Fatalf("19.4: Open(%s, %d) = %+v, %d, want %+v", short(c), leeway, w, int(code), want)
	}
	holdOpen(t, c, leeway)
}
