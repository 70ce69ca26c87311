package ring_test

import (
	"encoding/base64"
	"fmt"
	"math"
	"math/big"
	"reflect"
	"slices"
	"strings"
	"testing"

	"signet/api"
	"signet/header"
	"signet/jwt"
	"signet/keyset"
	"signet/ring"
)

// The chapter's words, over a list of all sets that there ever were.

const low, high = math.MinInt64, math.MaxInt64

type slowSet struct {
	text    string
	version int64
	until   *big.Int // nil: none
	gone    bool
}

func (s slowSet) live(at int64) bool {
	return !s.gone && (s.until == nil || big.NewInt(at).Cmp(s.until) < 0)
}

// slow: a ring; the sets in the order of their coming.
type slow struct {
	sets  []slowSet
	clock *big.Int // nil: none
}

func (x *slow) clone() *slow { return &slow{slices.Clone(x.sets), x.clock} }

func (x *slow) back(now int64) bool { return x.clock != nil && big.NewInt(now).Cmp(x.clock) < 0 }

// live: the places of the sets that are live, the newest first.
func (x *slow) live(at int64) []int {
	var l []int
	for i, s := range slices.Backward(x.sets) {
		if s.live(at) {
			l = append(l, i)
		}
	}
	return l
}

// rotate: 24.1.
func (x *slow) rotate(keys string, now, grace int64) api.Errno {
	if x.back(now) {
		return api.ErrBack
	}
	if grace < 0 || grace > 4294967296 {
		return api.ErrPolicy
	}
	if _, code := keyset.Parse(keys); code != api.OK {
		return code
	}
	behind := x.clone()
	until := new(big.Int).Add(big.NewInt(now), big.NewInt(grace))
	if until.Cmp(big.NewInt(high)) > 0 {
		until = big.NewInt(high)
	}
	for i := range behind.sets {
		if behind.sets[i].until == nil {
			behind.sets[i].until = until
		}
	}
	behind.sets = append(behind.sets, slowSet{text: keys, version: int64(len(x.sets) + 1)})
	if len(behind.live(now)) > 8 {
		return api.ErrFull
	}
	behind.clock = big.NewInt(now)
	*x = *behind
	return api.OK
}

// kid: that of a token's header; none, if there is no header.
func kid(token string) []string {
	parts := strings.Split(token, ".")
	text, err := base64.RawURLEncoding.Strict().DecodeString(parts[0])
	if err != nil || len(parts) != 3 || strings.ContainsAny(parts[0], "\r\n") {
		return nil
	}
	h, code := header.Parse(string(text))
	if code != api.OK {
		return nil
	}
	return []string{h.Kid}
}

// has: is there an entry of the token's kid?
func has(keys, token string) bool {
	l, _ := keyset.Parse(keys)
	for _, kid := range kid(token) {
		if slices.ContainsFunc(l, func(x api.Entry) bool { return x.HasKid && x.Kid == kid }) {
			return true
		}
	}
	return false
}

// verify: 24.2.
func (x *slow) verify(token string, p api.Policy, now int64) (api.Claims, int64, api.Errno) {
	if x.back(now) {
		return api.Claims{}, 0, api.ErrBack
	}
	x.clock = big.NewInt(now)
	for _, i := range x.live(now) {
		if has(x.sets[i].text, token) {
			c, code := jwt.Verify(token, x.sets[i].text, p, now)
			if code != api.OK {
				return api.Claims{}, 0, code
			}
			return c, x.sets[i].version, api.OK
		}
	}
	_, code := jwt.Verify(token, `{"keys":[]}`, p, now)
	return api.Claims{}, 0, code
}

// versions: 24.3.
func (x *slow) versions(now int64) []int64 {
	if x.back(now) {
		now = x.clock.Int64()
	}
	var l []int64
	for _, i := range x.live(now) {
		l = append(l, x.sets[i].version)
	}
	return l
}

// drop: 24.4.
func (x *slow) drop(version int64) api.Errno {
	for i, s := range x.sets {
		if s.version == version && s.live(x.clock.Int64()) {
			x.sets = slices.Clone(x.sets)
			x.sets[i].gone = true
			return api.OK
		}
	}
	return api.ErrVersion
}

// clocks: those at which something may change, and their neighbours.
func (x *slow) clocks() []int64 {
	l := []int64{low, low + 1, -1, 0, 1, high - 1, high}
	if x.clock != nil {
		l = append(l, near(x.clock.Int64(), -1), x.clock.Int64(), near(x.clock.Int64(), 1))
	}
	for _, s := range x.sets {
		if s.until != nil {
			l = append(l, near(s.until.Int64(), -1), s.until.Int64(), near(s.until.Int64(), 1))
		}
	}
	return l
}

// near: a number that is some steps away, cut at the ends of int64.
func near(n, steps int64) int64 {
	switch {
	case steps > 0 && n > high-steps:
		return high
	case steps < 0 && n < low-steps:
		return low
	}
	return n + steps
}

// Asking, with every answer held against the slow ring's.

func short(x any) string { return fmt.Sprintf("%.700q", fmt.Sprintf("%+v", x)) }

// fields: the claims without the value, and with an empty list for none.
func fields(c api.Claims) api.Claims {
	c.Value, c.Aud = nil, append([]string{}, c.Aud...)
	return c
}

func same(a, b api.Claims) bool {
	return slices.Equal(a.Value, b.Value) && reflect.DeepEqual(fields(a), fields(b))
}

func zero(x any) bool { return reflect.ValueOf(x).IsZero() }

// pair: a ring, and the slow one that is told the same.
type pair struct {
	ring *ring.Ring
	slow *slow
}

func newPair() *pair { return &pair{ring.New(), &slow{}} }

func (x *pair) rotate(t *testing.T, keys string, now, grace int64) api.Errno {
	t.Helper()
	code, want := x.ring.Rotate(keys, now, grace), x.slow.rotate(keys, now, grace)
	if code != want {
		t.Fatalf("24.1: Rotate(%.900q, %d, %d) = %d, want %d", keys, now, grace, int(code), int(want))
	}
	x.hold(t)
	return code
}

func (x *pair) verify(t *testing.T, token string, p api.Policy, now int64) (api.Claims, int64, api.Errno) {
	t.Helper()
	c, version, code := x.ring.Verify(token, p, now)
	wanted, wantVersion, want := x.slow.verify(token, p, now)
	if code != want || version != wantVersion || !same(c, wanted) {
		t.Fatalf("24.2: Verify(%.900q, %s, %d) = %s, %d, %d, want %s, %d, %d", token, short(p), now, short(c), version, int(code), short(wanted), wantVersion, int(want))
	}
	if code != api.OK && (!zero(c) || version != 0) {
		t.Fatalf("P4: Verify(%.900q, %s, %d) refuses, and answers %s, %d", token, short(p), now, short(c), version)
	}
	x.hold(t)
	return c, version, code
}

func (x *pair) drop(t *testing.T, version int64) api.Errno {
	t.Helper()
	code, want := x.ring.Drop(version), x.slow.drop(version)
	if code != want {
		t.Fatalf("24.4: Drop(%d) = %d, want %d", version, int(code), int(want))
	}
	x.hold(t)
	return code
}

// hold: all that a ring tells of its sets and its clock without a change.
func (x *pair) hold(t *testing.T) {
	t.Helper()
	for _, now := range x.slow.clocks() {
		if l, want := x.ring.Versions(now), x.slow.versions(now); !slices.Equal(l, want) {
			t.Fatalf("24.3: Versions(%d) = %d, want %d", now, l, want)
		}
		want := api.ErrPolicy
		if x.slow.back(now) {
			want = api.ErrBack
		}
		if code := x.ring.Rotate("", now, -1); code != want { // refused, so that it changes nothing
			t.Fatalf("24.1: the clock: Rotate of no set at %d = %d, want %d", now, int(code), int(want))
		}
	}
}

func (x *pair) mustRotate(t *testing.T, want api.Errno, keys string, now, grace int64) {
	t.Helper()
	if code := x.rotate(t, keys, now, grace); code != want {
		t.Fatalf("24.1: Rotate(%.900q, %d, %d) = %d, want %d", keys, now, grace, int(code), int(want))
	}
}

// mustVerify: taken by that version; refused, if it is 0.
func (x *pair) mustVerify(t *testing.T, want api.Errno, wantVersion int64, token string, now int64) {
	t.Helper()
	x.mustVerifyBy(t, want, wantVersion, token, asked, now)
}

func (x *pair) mustVerifyBy(t *testing.T, want api.Errno, wantVersion int64, token string, p api.Policy, now int64) {
	t.Helper()
	c, version, code := x.verify(t, token, p, now)
	if code != want || version != wantVersion || (code == api.OK) != (c.Sub == "me") {
		t.Fatalf("24.2: Verify(%.900q, %s, %d) = %s, %d, %d, want %d, %d", token, short(p), now, short(c), version, int(code), wantVersion, int(want))
	}
}

func (x *pair) mustDrop(t *testing.T, want api.Errno, version int64) {
	t.Helper()
	if code := x.drop(t, version); code != want {
		t.Fatalf("24.4: Drop(%d) = %d, want %d", version, int(code), int(want))
	}
}

func (x *pair) mustTell(t *testing.T, now int64, want ...int64) {
	t.Helper()
	if l := x.ring.Versions(now); !slices.Equal(l, want) {
		t.Fatalf("24.3: Versions(%d) = %d, want %d", now, l, want)
	}
}
