package gate_test

import (
	"fmt"
	"math"
	"math/big"
	"reflect"
	"slices"
	"testing"

	"signet/api"
	"signet/gate"
	"signet/ring"
	"signet/rules"
)

// The chapter's words, over a list of all tokens that were ever let by.

const low, high = math.MinInt64, math.MaxInt64

// passed: a token that was let by; iss: none, or one.
type passed struct {
	iss []string
	jti string
	end *big.Int
}

func (p passed) named(iss []string, jti string) bool { return p.jti == jti && slices.Equal(p.iss, iss) }

// step: what its ring was told that may have changed it.
type step struct {
	rotated    bool
	keys       string
	now, grace int64
}

// slow: a gate. Of what a ring does this chapter says nothing, so it has one.
type slow struct {
	policy api.Policy
	rule   string
	ring   *ring.Ring
	steps  []step
	passed []passed // in the order of their coming
	length int      // that Len answers
}

func newSlow(p api.Policy, rule string) *slow {
	return &slow{policy: p, rule: rule, ring: ring.New()}
}

func (x *slow) clone() *slow {
	y := newSlow(x.policy, x.rule)
	y.steps, y.passed, y.length = slices.Clone(x.steps), slices.Clone(x.passed), x.length
	for _, s := range x.steps {
		if s.rotated {
			y.ring.Rotate(s.keys, s.now, s.grace)
		} else {
			y.ring.Verify("", x.policy, s.now)
		}
	}
	return y
}

// wantNew: 26.1.
func wantNew(p api.Policy, rule string) api.Errno {
	if p.Leeway < 0 || p.Leeway > 600 {
		return api.ErrPolicy
	}
	if rule == "" {
		return api.OK
	}
	_, code, _ := rules.Parse(rule)
	return code
}

// rotate: 26.2.
func (x *slow) rotate(keys string, now, grace int64) api.Errno {
	code := x.ring.Rotate(keys, now, grace)
	if code == api.OK {
		x.steps = append(x.steps, step{true, keys, now, grace})
	}
	return code
}

// name: that of a token in the book, as it is spelled.
func name(iss []string, jti string) string {
	if len(iss) == 0 {
		return "-:" + jti
	}
	return fmt.Sprintf("%d:%s%s", len(iss[0]), iss[0], jti)
}

func issuer(c api.Claims) []string {
	if c.HasIss {
		return []string{c.Iss}
	}
	return nil
}

// end: exp + leeway - 1, or 2^63 - 1 if exp + leeway is above that.
func end(exp, leeway int64) *big.Int {
	sum := new(big.Int).Add(big.NewInt(exp), big.NewInt(leeway))
	if sum.Cmp(big.NewInt(high)) > 0 {
		return big.NewInt(high)
	}
	return sum.Sub(sum, big.NewInt(1))
}

// kept: how many names' ends are not below the clock; is this one among them?
func (x *slow) kept(iss []string, jti string, now int64) (count int, come bool) {
	clock := big.NewInt(now)
	for _, p := range x.passed {
		if p.end.Cmp(clock) >= 0 {
			count++
			come = come || p.named(iss, jti)
		}
	}
	return count, come
}

// take: 26.3.
func (x *slow) take(token string, now int64) (api.Claims, api.Errno) {
	c, _, code := x.ring.Verify(token, x.policy, now)
	if code != api.ErrBack {
		x.steps = append(x.steps, step{now: now})
	}
	if code != api.OK {
		return api.Claims{}, code
	}
	if x.rule != "" {
		if code := rules.Allow(x.rule, c.Value); code != api.OK {
			return api.Claims{}, code
		}
	}
	if !c.HasJti || !c.Exp.Has {
		return api.Claims{}, api.ErrMissing
	}
	iss, jti := issuer(c), c.Jti
	if len(name(iss, jti)) > 1024 {
		return api.Claims{}, api.ErrLarge
	}
	count, come := x.kept(iss, jti, now)
	x.length = count
	if come {
		return api.Claims{}, api.ErrReplay
	}
	if count == 4096 {
		return api.Claims{}, api.ErrFull
	}
	x.passed = append(x.passed, passed{iss, jti, end(c.Exp.At, x.policy.Leeway)})
	x.length++
	return c, api.OK
}

// batch: 26.4.
func (x *slow) batch(tokens []string, now int64) []api.Verdict {
	var l []api.Verdict
	for _, token := range tokens {
		c, code := x.take(token, now)
		l = append(l, api.Verdict{Code: code, Claims: c})
	}
	return l
}

// near: a number that is some steps away, cut at the ends of int64.
func near(n, steps int64) int64 {
	switch {
	case steps > 0 && n > high-steps:
		return high
	case steps < 0 && n < low-steps:
		return low
	}
	return n + steps
}

// Asking, with every answer held against the slow gate's.

func short(x any) string { return fmt.Sprintf("%.700q", fmt.Sprintf("%+v", x)) }

// fields: the claims without the value, and with an empty list for none.
func fields(c api.Claims) api.Claims {
	c.Value, c.Aud = nil, append([]string{}, c.Aud...)
	return c
}

func same(a, b api.Claims) bool {
	return slices.Equal(a.Value, b.Value) && reflect.DeepEqual(fields(a), fields(b))
}

func zero(x any) bool { return reflect.ValueOf(x).IsZero() }

// pair: a gate, and the slow one that is told the same.
type pair struct {
	gate *gate.Gate
	slow *slow
}

func mustNew(t *testing.T, p api.Policy, rule string) *pair {
	t.Helper()
	g, code := gate.New(p, rule)
	if code != api.OK || g == nil {
		t.Fatalf("26.1: New(%s, %q) = %d", short(p), rule, int(code))
	}
	return &pair{g, newSlow(p, rule)}
}

func mustRefuse(t *testing.T, want api.Errno, p api.Policy, rule string) {
	t.Helper()
	if g, code := gate.New(p, rule); code != want || g != nil {
		t.Fatalf("26.1: New(%s, %.80q) = %d, want %d and no gate", short(p), rule, int(code), int(want))
	}
}

// open: a gate with the usual key and that leeway.
func open(t *testing.T, leeway int64) *pair {
	t.Helper()
	return openWith(t, leeway, "")
}

func openWith(t *testing.T, leeway int64, rule string) *pair {
	t.Helper()
	p := asked
	p.Leeway = leeway
	x := mustNew(t, p, rule)
	x.mustRotate(t, api.OK, usual, low, 0)
	return x
}

func (x *pair) rotate(t *testing.T, keys string, now, grace int64) api.Errno {
	t.Helper()
	code, want := x.gate.Rotate(keys, now, grace), x.slow.rotate(keys, now, grace)
	if code != want {
		t.Fatalf("26.2: Rotate(%.900q, %d, %d) = %d, want %d", keys, now, grace, int(code), int(want))
	}
	x.hold(t, now)
	return code
}

func (x *pair) mustRotate(t *testing.T, want api.Errno, keys string, now, grace int64) {
	t.Helper()
	if code := x.rotate(t, keys, now, grace); code != want {
		t.Fatalf("26.2: Rotate(%.900q, %d, %d) = %d, want %d", keys, now, grace, int(code), int(want))
	}
}

// take: what is answered is claims just if it is OK.
func (x *pair) take(t *testing.T, token string, now int64) api.Errno {
	t.Helper()
	c, code := x.gate.Take(token, now)
	wanted, want := x.slow.take(token, now)
	if code != want || !same(c, wanted) {
		t.Fatalf("26.3: Take(%.900q, %d) = %s, %d, want %s, %d", token, now, short(c), int(code), short(wanted), int(want))
	}
	if zero(c) != (code != api.OK) {
		t.Fatalf("P4: Take(%.900q, %d) = %s, %d", token, now, short(c), int(code))
	}
	x.hold(t, now)
	return code
}

func (x *pair) mustTake(t *testing.T, want api.Errno, token string, now int64) {
	t.Helper()
	if code := x.take(t, token, now); code != want {
		t.Fatalf("26.3: Take(%.900q, %d) = %d, want %d", token, now, int(code), int(want))
	}
}

func (x *pair) batch(t *testing.T, tokens []string, now int64) []api.Verdict {
	t.Helper()
	l, wanted := x.gate.Batch(tokens, now), x.slow.batch(tokens, now)
	if len(l) != len(wanted) {
		t.Fatalf("26.4: %d verdicts on %d tokens", len(l), len(tokens))
	}
	for i, v := range l {
		if v.Code != wanted[i].Code || !same(v.Claims, wanted[i].Claims) {
			t.Fatalf("26.4: Batch of %d tokens at %d: %d: %s, want %s", len(tokens), now, i, short(v), short(wanted[i]))
		}
		if zero(v.Claims) != (v.Code != api.OK) {
			t.Fatalf("P4: Batch of %d tokens at %d: %d: %s", len(tokens), now, i, short(v))
		}
	}
	x.hold(t, now)
	return l
}

func (x *pair) mustBatch(t *testing.T, tokens []string, now int64, want ...api.Errno) {
	t.Helper()
	var codes []api.Errno
	for _, v := range x.batch(t, tokens, now) {
		codes = append(codes, v.Code)
	}
	if !slices.Equal(codes, want) {
		t.Fatalf("26.4: Batch(%.900q, %d) = %d, want %d", tokens, now, codes, want)
	}
}

func (x *pair) mustLen(t *testing.T, want int) {
	t.Helper()
	if n := x.gate.Len(); n != want {
		t.Fatalf("26.5: Len = %d, want %d", n, want)
	}
}

// hold: all that a gate tells without a change: Len, and where its clock is.
func (x *pair) hold(t *testing.T, now int64) {
	t.Helper()
	if n := x.gate.Len(); n != x.slow.length {
		t.Fatalf("26.5: Len = %d, want %d", n, x.slow.length)
	}
	for _, at := range []int64{low, near(now, -1), now, near(now, 1), high} {
		if code, want := x.gate.Rotate("", at, -1), x.slow.ring.Rotate("", at, -1); code != want {
			t.Fatalf("26.3: the clock: Rotate of no set at %d = %d, want %d", at, int(code), int(want))
		}
	}
}
