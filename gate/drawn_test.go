package gate_test

import (
	"math/big"
	"math/rand"
	"slices"
	"strconv"
	"testing"

	"signet/api"
)

func pick[T any](r *rand.Rand, of []T) T { return of[r.Intn(len(of))] }

// drawnToken: what its payload says, if it has these.
type drawnToken struct {
	text string
	iss  []string
	jti  string
	exp  int64
}

// told: one token of a run, by Take or in a batch, and its answer.
type told struct {
	drawnToken
	end  *big.Int
	now  int64
	code api.Errno
}

// run: a gate, and all tokens that it was told.
type run struct {
	*pair
	leeway int64
	log    []told
}

func (x *run) tell(t *testing.T, token drawnToken, now int64) {
	t.Helper()
	x.add(token, now, x.take(t, token.text, now))
}

func (x *run) add(token drawnToken, now int64, code api.Errno) {
	x.log = append(x.log, told{token, end(token.exp, x.leeway), now, code})
}

func (x *run) tellBatch(t *testing.T, tokens []drawnToken, now int64) {
	t.Helper()
	var texts []string
	for _, token := range tokens {
		texts = append(texts, token.text)
	}
	for i, v := range x.batch(t, texts, now) {
		x.add(tokens[i], now, v.Code)
	}
}

func (e told) names(other told) bool { return e.jti == other.jti && slices.Equal(e.iss, other.iss) }

// hold: 26.6 in its own words, of all that was told.
func (x *run) hold(t *testing.T) {
	t.Helper()
	for i, e := range x.log {
		now, last, kept := big.NewInt(e.now), -1, 0 // the last one of its name that was let by; how many are kept
		for j, before := range x.log[:i] {
			if before.code != api.OK {
				continue
			}
			if before.names(e) {
				last = j
			}
			if before.end.Cmp(now) >= 0 {
				kept++
			}
		}
		lives := last >= 0 && x.log[last].end.Cmp(now) >= 0
		switch {
		case e.code == api.OK && lives:
			t.Fatalf("26.6: %.300q is let by at %d, and %.300q lives", e.text, e.now, x.log[last].text)
		case e.code == api.ErrReplay && !lives:
			t.Fatalf("26.6: %.300q is refused at %d as come before", e.text, e.now)
		case e.code == api.ErrFull && kept != 4096 || kept > 4096:
			t.Fatalf("26.6: %.300q is answered %d at %d, where %d are kept", e.text, int(e.code), e.now, kept)
		}
	}
}

func (x *run) clock(start int64) int64 {
	if n := len(x.slow.steps); n > 0 {
		return x.slow.steps[n-1].now
	}
	return start
}

// drawn: a token of a small world, so that names come again; with a fault now and then.
func drawn(r *rand.Rand, clock int64) drawnToken {
	d := drawnToken{iss: pick(r, [][]string{by(), by(""), by("a"), by("1:"), by("ab")}), jti: pick(r, []string{"", "a", "b", "ab", ":a", "1:a"}), exp: near(clock, int64(r.Intn(12)-2))}
	if r.Intn(10) == 0 {
		d.exp = pick(r, []int64{low, low + 1, 0, high - 1, high})
	}
	kid, letter := pick(r, []string{"k", "k", "k", "l"}), pick(r, []string{"x", "x", "x", "x", "y"})
	var more []string
	switch r.Intn(16) {
	case 0:
		more = []string{`,"nbf":`, strconv.FormatInt(near(clock, int64(r.Intn(5))), 10)}
	case 1:
		more = []string{`,"bad":true`}
	case 2:
		d.text = pick(r, []string{"", "..", "a.b", pays(`[]`), pays(`{"exp":`), tag(signs(headOf("k"))+".!", "x")})
		return d
	case 3:
		d.text = signed(headOf(kid), pick(r, []string{`{}`, `{"jti":"a"}`, `{"exp":` + strconv.FormatInt(d.exp, 10) + `}`}), letter)
		return d
	case 4:
		d.jti = string(make([]byte, 1000+r.Intn(40)))
	}
	d.text = signed(headOf(kid), claim(d.iss, d.jti, d.exp, more...), letter)
	return d
}

func drawnRotate(t *testing.T, r *rand.Rand, x *run, now int64) {
	t.Helper()
	keys := set(key(pick(r, []string{"k", "l"}), pick(r, []string{"x", "y"})), key("m", "x"))
	switch r.Intn(8) {
	case 0:
		keys = pick(r, []string{"", `{}`, set(key("k", "x"), key("k", "y"))})
	case 1, 2, 3, 4:
		keys = set(key("k", "x"), key("l", "x"))
	}
	x.rotate(t, keys, now, pick(r, []int64{0, 1, 3, 8, 20, 4294967296, -1}))
}

// Drawn runs, at both ends of time and between; each code that is the gate's own is met.
func TestDrawnRuns(t *testing.T) {
	t.Parallel()
	r := rand.New(rand.NewSource(3))
	met := map[api.Errno]int{}
	for range 200 {
		start := pick(r, []int64{low, low + 5, -30, 0, 1700000000, high - 700, high - 60, high - 5, int64(r.Uint64())})
		p := asked
		p.Leeway = pick(r, []int64{0, 1, 2, 5, 600})
		x := &run{pair: mustNew(t, p, pick(r, []string{"", "not has bad", `not (has bad or jti = "b")`})), leeway: p.Leeway}
		x.rotate(t, set(key("k", "x"), key("l", "x")), start, 0)
		for range 20 + r.Intn(60) {
			clock := x.clock(start)
			now := near(clock, pick(r, []int64{0, 0, 0, 0, 1, 1, 2, 3, -1, 12}))
			switch r.Intn(10) {
			case 0:
				drawnRotate(t, r, x, now)
			case 1, 2:
				var l []drawnToken
				for range r.Intn(8) {
					l = append(l, drawn(r, clock))
				}
				x.tellBatch(t, l, now)
			default:
				x.tell(t, drawn(r, clock), now)
			}
		}
		x.hold(t)
		for _, e := range x.log {
			met[e.code]++
		}
	}
	for _, code := range []api.Errno{api.OK, api.ErrBack, api.ErrDenied, api.ErrMissing, api.ErrLarge, api.ErrReplay, api.ErrExpired, api.ErrEarly, api.ErrSignature, api.ErrNoKey, api.ErrDots} {
		if met[code] < 20 {
			t.Errorf("%d is met %d times only", int(code), met[code])
		}
	}
}

// Drawn runs of gates that are full, or nearly so, by the slow gate's count.
func TestDrawnFull(t *testing.T) {
	t.Parallel()
	r := rand.New(rand.NewSource(4))
	met := map[api.Errno]int{}
	x := &run{pair: open(t, 0)}
	clock := int64(100)
	for range 60 {
		clock += int64(r.Intn(4))
		var l []drawnToken
		for range r.Intn(600) {
			d := drawnToken{jti: strconv.Itoa(r.Intn(8000)), exp: clock + 10 + int64(r.Intn(60))}
			d.text = ticket(d.iss, d.jti, d.exp)
			l = append(l, d)
		}
		for _, d := range l[:min(3, len(l))] {
			x.tell(t, d, clock)
		}
		x.tellBatch(t, l, clock)
	}
	for _, e := range x.log {
		met[e.code]++
	}
	if met[api.ErrFull] < 200 || met[api.OK] < 4200 || met[api.ErrReplay] < 200 {
		t.Errorf("%v", met)
	}
	x.hold(t)
}

// P3: what is asked beside, and refused beside, counts for nothing.
func TestAskingChangesNothing(t *testing.T) {
	t.Parallel()
	r := rand.New(rand.NewSource(5))
	for range 40 {
		busy, quiet := &run{pair: open(t, 2)}, open(t, 2)
		for range 40 {
			clock := busy.clock(0)
			for range r.Intn(4) {
				busy.gate.Len()
				busy.gate.Batch(nil, int64(r.Uint64()))
				busy.gate.Rotate(usual, high, -1-int64(r.Intn(5)))
				busy.gate.Rotate("{", high, 0)
				if clock > low {
					busy.gate.Take(drawn(r, clock).text, clock-1)
					busy.gate.Batch([]string{drawn(r, clock).text}, low)
					busy.gate.Rotate(usual, clock-1, 0)
				}
			}
			d, now := drawn(r, max(clock, 0)), near(max(clock, 0), int64(r.Intn(3)))
			busy.tell(t, d, now)
			if _, code := quiet.gate.Take(d.text, now); code != busy.log[len(busy.log)-1].code || quiet.gate.Len() != busy.gate.Len() {
				t.Fatalf("P3: %.300q is answered %d by a gate that was asked less", d.text, int(code))
			}
		}
	}
}
