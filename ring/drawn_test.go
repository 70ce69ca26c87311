package ring_test

import (
	"fmt"
	"math/big"
	"math/rand"
	"slices"
	"strings"
	"testing"

	"signet/api"
	"signet/jwt"
)

func pick[T any](r *rand.Rand, of []T) T { return of[r.Intn(len(of))] }

// told: one call of a run that may change something, and its answer.
type told struct {
	call    string // Rotate, Verify or Drop
	text    string // the set or the token
	policy  api.Policy
	now     int64
	grace   int64
	version int64 // that was dropped, or that is answered
	claims  api.Claims
	code    api.Errno
}

// run: a ring, and all that it was told.
type run struct {
	*pair
	log []told
}

func (x *run) tell(t *testing.T, e told) told {
	t.Helper()
	switch e.call {
	case "Rotate":
		e.code = x.rotate(t, e.text, e.now, e.grace)
	case "Verify":
		e.claims, e.version, e.code = x.verify(t, e.text, e.policy, e.now)
	default:
		e.code = x.drop(t, e.version)
	}
	x.log = append(x.log, e)
	return e
}

// rotated: a Rotate that was OK, by the log alone: where it stands there, and its set's end and Drop, if there are any.
type rotated struct {
	at      int
	text    string
	version int64
	until   *big.Int
	dropped int
}

// rotates: those among the first so many calls.
func (x *run) rotates(count int) []rotated {
	var l []rotated
	for i, e := range x.log[:count] {
		if e.code != api.OK {
			continue
		}
		if e.call == "Rotate" {
			if n := len(l); n > 0 {
				l[n-1].until = new(big.Int).Add(big.NewInt(e.now), big.NewInt(e.grace))
				if !l[n-1].until.IsInt64() {
					l[n-1].until = big.NewInt(high)
				}
			}
			l = append(l, rotated{at: i, text: e.text, version: int64(len(l) + 1), dropped: -1})
		}
		if e.call == "Drop" {
			l[e.version-1].dropped = i
		}
	}
	return l
}

func (s rotated) live(at int64) bool {
	return s.dropped < 0 && (s.until == nil || big.NewInt(at).Cmp(s.until) < 0)
}

// hold: 24.6, 24.7 and 24.8 in their own words, of all that was told.
func (x *run) hold(t *testing.T) {
	t.Helper()
	for i, e := range x.log {
		if e.call != "Verify" || e.code == api.ErrBack {
			continue
		}
		sets := x.rotates(i)
		x.holdOne(t, sets, e)
		if e.code == api.OK {
			x.holdEnd(t, sets[e.version-1], e)
			x.holdGrace(t, i, sets[e.version-1])
		}
	}
}

// holdOne: 24.6: the newest of the live sets that have the kid says what is answered.
func (x *run) holdOne(t *testing.T, sets []rotated, e told) {
	t.Helper()
	for _, s := range slices.Backward(sets) {
		if !s.live(e.now) || !has(s.text, e.text) {
			continue
		}
		if _, code := jwt.Verify(e.text, s.text, e.policy, e.now); code != e.code || code == api.OK && s.version != e.version {
			t.Fatalf("24.6: %+v: the set %d says %d", e, s.version, int(code))
		}
		return
	}
	if e.code == api.OK {
		t.Fatalf("24.6: %+v: no live set has its kid", e)
	}
}

// holdEnd: 24.7.
func (x *run) holdEnd(t *testing.T, s rotated, e told) {
	t.Helper()
	if s.dropped >= 0 || s.until != nil && big.NewInt(e.now).Cmp(s.until) >= 0 {
		t.Fatalf("24.7: %+v is taken by a set that has ended: %+v", e, s)
	}
}

// holdGrace: 24.8, of a token that was taken by that set, and of all that follows.
func (x *run) holdGrace(t *testing.T, at int, taker rotated) {
	t.Helper()
	first := x.log[at]
	for i, e := range x.log[at+1:] {
		s := x.rotates(at + 1 + i)[taker.version-1]
		if e.call == "Rotate" && e.code == api.OK && has(e.text, first.text) || s.dropped >= 0 {
			return
		}
		if e.call != "Verify" || e.text != first.text || fmt.Sprint(e.policy) != fmt.Sprint(first.policy) || e.code == api.ErrBack || !s.live(e.now) {
			continue
		}
		c, code := jwt.Verify(e.text, s.text, e.policy, e.now)
		if code != e.code || code == api.OK && (e.version != s.version || !same(c, e.claims)) {
			t.Fatalf("24.8: %+v is taken, and then %+v, which its set says %d of", first, e, int(code))
		}
	}
}

// Kids and letters of a small world, so that sets often share them.
var (
	kids    = []string{"a", "b", "c", ""}
	letters = []string{"x", "y"}
)

// drawnSet: some of the kids, now and then twice, as another type, malformed, or no set at all.
func drawnSet(r *rand.Rand) string {
	var keys []string
	for _, kid := range kids {
		switch r.Intn(8) {
		case 0, 1, 2:
			keys = append(keys, key(kid, pick(r, letters)))
		case 3:
			keys = append(keys, key(kid, pick(r, letters), pick(r, []string{`,"use":"enc"`, `,"use":"sig"`, `,"alg":"HS256"`, `,"key_ops":[]`, `,"k2":"kid"`})))
		}
	}
	switch r.Intn(12) {
	case 0:
		keys = append(keys, pick(r, []string{edKey("a", 1), `{"kty":"x","kid":"b"}`, `{"kty":"oct"}`, `{"kty":"oct","kid":"c","k":""}`}))
	case 1:
		return pick(r, []string{"", "[]", `{"keys":[{}]}`, set(keys...) + "!", strings.Repeat(" ", 262145)})
	}
	r.Shuffle(len(keys), func(i, j int) { keys[i], keys[j] = keys[j], keys[i] })
	return strings.Repeat(" ", r.Intn(3)) + set(keys...)
}

// drawnToken: most often one of the world's kids and letters; with times near the clock, or a fault, now and then.
func drawnToken(r *rand.Rand, clock int64) string {
	kid, letter := pick(r, kids), pick(r, letters)
	switch r.Intn(12) {
	case 0:
		return signed(headOf(kid), fmt.Sprintf(`{"sub":"me","exp":%d}`, near(clock, int64(r.Intn(9)))), letter)
	case 1:
		return signed(headOf(kid), fmt.Sprintf(`{"nbf":%d,"iat":%d}`, near(clock, int64(r.Intn(5))), near(clock, int64(r.Intn(5)))), letter)
	case 2:
		return pick(r, []string{"", "..", "a.b", token(kid, letter) + ".", token(kid, letter) + "=", "!" + token(kid, letter), signed(`{"alg":"none"}`, me, letter), signed(headOf(kid), `[]`, letter), tag(signs(headOf(kid))+".!", letter), token("d", letter), edToken(kid, 1)})
	}
	return token(kid, letter)
}

func drawnPolicy(r *rand.Rand) api.Policy {
	p := asked
	switch r.Intn(12) {
	case 0:
		p.Leeway = pick(r, []int64{-1, 601, 600, 2, low, high})
	case 1:
		p.Algs = pick(r, [][]string{nil, {"none"}, {"HS512"}, {"EdDSA", "HS256"}})
	case 2:
		p.Need = []string{pick(r, []string{"sub", "exp"})}
	}
	return p
}

// drawnCall: clocks most often move on a little, graces are most often of a few steps.
func drawnCall(r *rand.Rand, x *run, clock int64) told {
	now := near(clock, pick(r, []int64{0, 0, 0, 0, 1, 1, 2, 3, -1, -2, 12}))
	switch r.Intn(20) {
	case 0, 1, 2, 3, 4:
		grace := pick(r, []int64{0, 1, 2, 3, 5, 8, 20, 20, 50, 4294967296})
		if r.Intn(12) == 0 {
			grace = pick(r, []int64{-1, low, 4294967297, high})
		}
		return told{call: "Rotate", text: drawnSet(r), now: now, grace: grace}
	case 5:
		return told{call: "Drop", version: int64(len(x.slow.sets)) - int64(r.Intn(6)) + 1}
	}
	e := told{call: "Verify", text: drawnToken(r, clock), policy: drawnPolicy(r), now: now}
	if n := len(x.log); n > 0 && r.Intn(3) == 0 { // the same once more
		if before := x.log[n-1-r.Intn(min(n, 12))]; before.call == "Verify" {
			e.text, e.policy = before.text, before.policy
		}
	}
	return e
}

func clockOf(x *run, start int64) int64 {
	if x.slow.clock != nil {
		return x.slow.clock.Int64()
	}
	return start
}

// Drawn runs, at both ends of time and between; every code that is the ring's own is met, and each kind of answer.
func TestDrawnRuns(t *testing.T) {
	t.Parallel()
	r := rand.New(rand.NewSource(1))
	met := map[string]int{}
	for range 250 {
		start := pick(r, []int64{low, low + 5, -30, 0, 1700000000, high - 60, high - 5, int64(r.Uint64())})
		x := &run{pair: newPair()}
		for range 20 + r.Intn(70) {
			e := x.tell(t, drawnCall(r, x, clockOf(x, start)))
			met[fmt.Sprint(e.call, " ", int(e.code))]++
			if n := len(x.slow.versions(e.now)); e.code == api.OK && e.call == "Verify" && e.version != x.slow.versions(e.now)[0] && n > 1 {
				met["by an older one"]++
			}
		}
		x.hold(t)
	}
	for _, what := range []string{"Rotate 0", "Rotate 162", "Rotate 12", "Rotate 100", "Rotate 31", "Rotate 10", "Drop 0", "Drop 170", "Verify 0", "Verify 162", "Verify 103", "Verify 104", "Verify 105", "Verify 91", "Verify 134", "Verify 135", "Verify 120", "by an older one"} {
		if met[what] < 20 {
			t.Errorf("%s is met %d times only", what, met[what])
		}
	}
}

// Drawn runs of rings that are full, or nearly so.
func TestDrawnFull(t *testing.T) {
	t.Parallel()
	r := rand.New(rand.NewSource(2))
	full := 0
	for range 100 {
		x := &run{pair: newPair()}
		clock := pick(r, []int64{low, -30, 1700000000, high - 60})
		for range 60 {
			e := drawnCall(r, x, clockOf(x, clock))
			if r.Intn(2) == 0 {
				e = told{call: "Rotate", text: set(key(pick(r, kids), pick(r, letters))), now: near(clockOf(x, clock), int64(r.Intn(2))), grace: int64(r.Intn(30))}
			}
			if x.tell(t, e).code == api.ErrFull {
				full++
			}
		}
		x.hold(t)
	}
	if full < 200 {
		t.Errorf("ErrFull is met %d times only", full)
	}
}

// P3: what is asked beside, and refused beside, counts for nothing.
func TestAskingChangesNothing(t *testing.T) {
	t.Parallel()
	r := rand.New(rand.NewSource(3))
	for range 60 {
		busy, quiet := &run{pair: newPair()}, newPair()
		for range 40 {
			for range r.Intn(4) {
				busy.ring.Versions(int64(r.Uint64()))
				busy.ring.Rotate(drawnSet(r), high, -1-int64(r.Intn(5)))
				busy.ring.Rotate("{", high, 0)
				busy.ring.Drop(int64(r.Intn(3)) - 5)
				if busy.slow.clock != nil && busy.slow.clock.Int64() > low {
					busy.ring.Verify(drawnToken(r, 0), drawnPolicy(r), busy.slow.clock.Int64()-1)
					busy.ring.Rotate(set(), busy.slow.clock.Int64()-1, 0)
				}
			}
			e := busy.tell(t, drawnCall(r, busy, clockOf(busy, 0)))
			var code api.Errno
			switch e.call {
			case "Rotate":
				code = quiet.ring.Rotate(e.text, e.now, e.grace)
			case "Verify":
				_, _, code = quiet.ring.Verify(e.text, e.policy, e.now)
			default:
				code = quiet.ring.Drop(e.version)
			}
			if code != e.code || !slices.Equal(busy.ring.Versions(low), quiet.ring.Versions(low)) {
				t.Fatalf("P3: %+v is answered %d by a ring that was asked less", e, int(code))
			}
		}
	}
}
