package ring_test

import (
	"math/rand"
	"slices"
	"strings"
	"testing"

	"signet/api"
)

// wildly: a text with some bytes put in, taken away and changed.
func wildly(r *rand.Rand, s, with string) string {
	b := []byte(s)
	for range 1 + r.Intn(3) {
		at := r.Intn(len(b) + 1)
		switch c := with[r.Intn(len(with))]; {
		case r.Intn(3) == 0 || at == len(b):
			b = slices.Insert(b, at, c)
		case r.Intn(2) == 0:
			b = slices.Delete(b, at, at+1)
		default:
			b[at] = c
		}
	}
	return string(b)
}

const (
	jsonBytes  = `{}[]":,\uaekidsty01.- ` + "\xff\x00"
	tokenBytes = "..AQZaz09-_=+/ \n\r\x00\xff"
)

// P1: sets and tokens that nearly are some, at any clocks, with any graces.
func TestWild(t *testing.T) {
	t.Parallel()
	r := rand.New(rand.NewSource(6))
	for range 200 {
		x := &run{pair: newPair()}
		for range 40 {
			clock := clockOf(x, 0)
			times := []int64{low, low + 1, -1, 0, 1, high - 1, high, clock, clock, clock, near(clock, 1), near(clock, 1), near(clock, -1), int64(r.Uint64())}
			e := drawnCall(r, x, clock)
			if e.now = pick(r, times); r.Intn(10) > 0 && e.now > 1<<50 {
				e.now = near(clock, 2)
			}
			switch {
			case e.call == "Rotate" && r.Intn(2) == 0:
				e.text = wildly(r, e.text, jsonBytes)
			case e.call == "Verify" && r.Intn(3) == 0:
				e.text = wildly(r, e.text, tokenBytes)
			case e.call == "Verify" && r.Intn(2) == 0:
				e.text = signed(wildly(r, headOf("a"), jsonBytes), me, "x")
			}
			if r.Intn(6) == 0 {
				e.grace = pick(r, times)
			}
			if e.call == "Drop" {
				e.version = pick(r, append(times, e.version))
			}
			x.tell(t, e)
		}
		x.hold(t)
	}
}

// Every beginning and every end of a set and of a token.
func TestCut(t *testing.T) {
	t.Parallel()
	keys, right := set(key("a", "x")), token("a", "x")
	x := newPair()
	x.mustRotate(t, api.OK, keys, 0, 0)
	for i := range right {
		x.verify(t, right[:i], asked, 0)
		x.verify(t, right[i:], asked, 0)
		x.verify(t, right[:i]+right[i+1:], asked, 0)
	}
	for i := range keys {
		x.rotate(t, keys[:i], 0, 0)
		x.rotate(t, keys[i:], 0, 0)
	}
	x.mustVerify(t, api.OK, 2, right, 0) // the whole is the end that begins at its beginning
}

// P1: what is far longer than any text may be.
func TestHuge(t *testing.T) {
	t.Parallel()
	x := newPair()
	huge := strings.Repeat("A", 1<<26)
	x.mustRotate(t, api.ErrLarge, huge, 0, 0)
	x.mustVerify(t, api.ErrLarge, 0, huge, 0)
	x.mustVerify(t, api.ErrLarge, 0, token("a", "x")+huge, 0)
	x.mustVerify(t, api.ErrLarge, 0, "."+huge+".", 0)
}

// FuzzRing: two sets that follow one another, a token of any header and any payload, and any token.
func FuzzRing(f *testing.F) {
	f.Add(set(key("a", "x")), set(key("b", "y")), headOf("a"), me, token("b", "y"), int64(5), int64(7), int64(10), int64(1))
	f.Add(set(key("a", "x")), set(key("a", "y")), headOf("a"), `{"exp":7}`, "..", int64(low), int64(high), int64(0), int64(2))
	f.Add("{}", set(), `{"alg":"HS256","kid":"\u0061"}`, `[]`, "a.b", int64(high-3), int64(high-1), int64(1)<<32, int64(3))
	f.Fuzz(func(t *testing.T, older, newer, head, pay, raw string, first, second, grace, version int64) {
		x := newPair()
		x.rotate(t, older, first, grace)
		x.verify(t, signed(head, pay, "x"), asked, first)
		x.rotate(t, newer, second, grace)
		for _, now := range []int64{second, near(second, 1), near(second, grace), version, first} {
			x.verify(t, signed(head, pay, "x"), asked, now)
			x.verify(t, signed(head, pay, "y"), asked, now)
			x.verify(t, raw, asked, now)
			x.verify(t, signs(head)+"."+raw, asked, now)
		}
		x.drop(t, version)
		x.verify(t, signed(head, pay, "x"), asked, high)
		x.rotate(t, newer, high, 0)
	})
}
