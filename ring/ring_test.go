package ring_test

import (
	"strings"
	"testing"

	"signet/api"
)

// The chapter's examples.
func TestExamples(t *testing.T) {
	t.Parallel()
	a, b := set(key("a", "x")), set(key("b", "y"))
	x := newPair()
	x.mustTell(t, 0)
	x.mustDrop(t, api.ErrVersion, 1)
	x.mustVerify(t, api.ErrNoKey, 0, token("a", "x"), 5)
	x.mustRotate(t, api.ErrBack, a, 0, 9)
	x.mustRotate(t, api.OK, a, 5, 10)
	x.mustRotate(t, api.OK, b, 20, 10)
	x.mustTell(t, 29, 2, 1)
	x.mustTell(t, 30, 2)
	x.mustTell(t, 3, 2, 1)
	x.mustVerify(t, api.OK, 1, token("a", "x"), 29)
	x.mustVerify(t, api.ErrNoKey, 0, token("a", "x"), 30)
	x.mustVerify(t, api.ErrBack, 0, token("a", "x"), 29)
	x.mustVerify(t, api.OK, 2, token("b", "y"), 30)
	x.mustDrop(t, api.OK, 2)
	x.mustDrop(t, api.ErrVersion, 2)
	x.mustTell(t, 30)
	x.mustRotate(t, api.ErrMember, `[]`, 31, 0)
	x.mustRotate(t, api.ErrPolicy, a, 31, -1)
	x = newPair()
	for range 8 {
		x.mustRotate(t, api.OK, a, 7, 5)
	}
	x.mustRotate(t, api.ErrFull, a, 7, 5)
}

// full: a ring with eight sets that are live up to 100, and the clock 50.
func full(t *testing.T) *pair {
	t.Helper()
	x := newPair()
	for range 8 {
		x.mustRotate(t, api.OK, set(key("a", "x")), 50, 50)
	}
	return x
}

// 24.1: each choice of reasons to refuse: the first one counts, and nothing is changed.
func TestRotateOrder(t *testing.T) {
	t.Parallel()
	docs := []struct {
		text string
		code api.Errno
	}{
		{set(), api.OK}, {"", api.ErrJson}, {`{"keys":[{}]}`, api.ErrMember}, {`{"keys":[],"keys":[]}`, api.ErrTwice}, {"{\"keys\":[\"\xff\"]}", api.ErrUtf8}, {`{"keys":["\ud800"]}`, api.ErrEscape},
		{`{"keys":[01]}`, api.ErrJson}, {strings.Repeat("[", 33), api.ErrDeep}, {strings.Repeat(" ", 262145), api.ErrLarge}, {set(key("a", "x", `,"use":1`)), api.ErrMember}, {`[]`, api.ErrMember},
	}
	rooms := []func(t *testing.T) *pair{full, func(t *testing.T) *pair {
		x := newPair()
		x.mustRotate(t, api.OK, set(key("a", "x")), 50, 0)
		return x
	}}
	for i, room := range rooms {
		x := room(t)
		for _, doc := range docs {
			for _, grace := range []int64{low, -4294967297, -1, 4294967297, 1 << 40, high, 0, 1, 4294967296} {
				for _, now := range []int64{low, -1, 0, 49, 50, 51} {
					want := doc.code
					bad := grace < 0 || grace > 4294967296
					switch {
					case now < 50:
						want = api.ErrBack
					case bad:
						want = api.ErrPolicy
					case doc.code == api.OK && (i != 0 || grace == 0):
						continue // it is taken
					case doc.code == api.OK:
						want = api.ErrFull
					}
					x.mustRotate(t, want, doc.text, now, grace)
				}
			}
		}
		x.mustVerify(t, api.OK, []int64{8, 1}[i], token("a", "x"), 50)
	}
}

// Of one that has had no clock yet nothing is back.
func TestFirstClock(t *testing.T) {
	t.Parallel()
	for _, now := range []int64{low, low + 1, -1, 0, 1, high} {
		x := newPair()
		x.mustTell(t, now)
		x.mustRotate(t, api.ErrPolicy, set(), now, -1)
		x.mustRotate(t, api.ErrJson, "", now, 0)
		x.mustRotate(t, api.ErrPolicy, set(), low, -1)
		x.mustRotate(t, api.OK, set(key("a", "x")), now, 0)
		x.mustTell(t, low, 1)
		x.mustVerify(t, api.OK, 1, token("a", "x"), now)
		y := newPair()
		y.mustVerify(t, api.ErrNoKey, 0, token("a", "x"), now)
		y.mustRotate(t, api.OK, set(), now, 0)
		if now > low {
			y.mustRotate(t, api.ErrBack, set(), now-1, 0)
			y.mustVerify(t, api.ErrBack, 0, token("a", "x"), now-1)
		}
	}
}

// 24.1: the grace is counted from the Rotate's clock, whatever the set's own was.
func TestGrace(t *testing.T) {
	t.Parallel()
	for _, grace := range []int64{0, 1, 2, 600, 4294967295, 4294967296} {
		for _, from := range []int64{low, -3, 0, 1700000000, high - 4294967296 - 10} {
			x := newPair()
			x.mustRotate(t, api.OK, set(key("a", "x")), from, 77)
			x.mustRotate(t, api.OK, set(key("b", "y")), from+5, grace)
			end := from + 5 + grace
			if grace > 0 {
				x.mustVerify(t, api.OK, 1, token("a", "x"), from+5)
				x.mustTell(t, end-1, 2, 1)
				x.mustVerify(t, api.OK, 1, token("a", "x"), end-1)
			}
			x.mustTell(t, end, 2)
			x.mustVerify(t, api.ErrNoKey, 0, token("a", "x"), end)
			x.mustVerify(t, api.OK, 2, token("b", "y"), high)
		}
	}
}

// Ends are cut at 2^63 - 1, which ends a set, but not one that has no end.
func TestEndOfTime(t *testing.T) {
	t.Parallel()
	for _, grace := range []int64{3, 4, 5, 600, 4294967296} {
		x := newPair()
		x.mustRotate(t, api.OK, set(key("a", "x")), low, 0)
		x.mustRotate(t, api.OK, set(key("b", "y")), high-3, grace)
		x.mustVerify(t, api.OK, 1, token("a", "x"), high-1)
		x.mustTell(t, high-1, 2, 1)
		x.mustTell(t, high, 2)
		x.mustVerify(t, api.ErrNoKey, 0, token("a", "x"), high)
		x.mustVerify(t, api.OK, 2, token("b", "y"), high)
		x.mustRotate(t, api.OK, set(key("c", "z")), high, grace)
		x.mustTell(t, high, 3)
		x.mustVerify(t, api.ErrNoKey, 0, token("b", "y"), high)
		x.mustVerify(t, api.OK, 3, token("c", "z"), high)
		for range 20 {
			x.mustRotate(t, api.OK, set(), high, grace) // each ends the one ahead: never full
		}
		x.mustTell(t, high, 23)
		for _, now := range []int64{low, 0, high - 1} {
			x.mustRotate(t, api.ErrBack, set(), now, 0)
			x.mustVerify(t, api.ErrBack, 0, token("c", "z"), now)
		}
	}
}

// 24.1: versions count the Rotates that are OK alone, and none comes again.
func TestCounted(t *testing.T) {
	t.Parallel()
	x := newPair()
	for i := range int64(300) {
		x.mustRotate(t, api.ErrMember, `{}`, i, 0)
		x.mustRotate(t, api.ErrPolicy, set(), i, -1)
		x.mustRotate(t, api.OK, set(key("a", "x")), i, 0)
		x.mustRotate(t, api.ErrBack, set(), i-1, 0)
		x.mustTell(t, i, i+1)
		x.mustVerify(t, api.OK, i+1, token("a", "x"), i)
		if i%3 == 0 {
			x.mustDrop(t, api.OK, i+1)
			x.mustTell(t, i)
		}
	}
}

// MaxRing sets and no more, the new one counted, until a grace ends or a set is dropped.
func TestFull(t *testing.T) {
	t.Parallel()
	x := full(t)
	x.mustRotate(t, api.ErrFull, set(), 50, 1)
	x.mustRotate(t, api.ErrFull, set(), 99, 4294967296)
	x.mustRotate(t, api.OK, set(), 50, 0) // the one ahead ends at once
	x.mustTell(t, 50, 9, 7, 6, 5, 4, 3, 2, 1)
	x.mustRotate(t, api.ErrFull, set(), 99, 1)
	x.mustRotate(t, api.OK, set(), 100, 1)
	x.mustTell(t, 100, 10, 9)
	x = full(t)
	x.mustDrop(t, api.OK, 3)
	x.mustRotate(t, api.OK, set(), 50, 9)
	x.mustTell(t, 50, 9, 8, 7, 6, 5, 4, 2, 1)
	x.mustRotate(t, api.ErrFull, set(), 58, 9)
	x.mustDrop(t, api.OK, 9)
	x.mustRotate(t, api.OK, set(), 58, 9) // no set is without an end, so that eight stay seven
	x.mustTell(t, 58, 10, 8, 7, 6, 5, 4, 2, 1)
	x.mustTell(t, 59, 10, 7, 6, 5, 4, 2, 1)
	x.mustRotate(t, api.OK, set(), 59, 9)
	x = full(t)
	x.mustDrop(t, api.OK, 8)
	x.mustRotate(t, api.OK, set(), 50, 0)
	x.mustRotate(t, api.ErrFull, set(), 50, 1)
	x.mustTell(t, 50, 9, 7, 6, 5, 4, 3, 2, 1)
}

// Each number of sets that end at the Rotate's clock, one ahead of it, and one behind.
func TestRoom(t *testing.T) {
	t.Parallel()
	for ending := range 8 {
		for _, now := range []int64{99, 100, 101} {
			x := newPair()
			for i := range 8 {
				grace := int64(200)
				if i > 0 && i <= ending {
					grace = 100
				}
				x.mustRotate(t, api.OK, set(key("a", "x")), 0, grace)
			}
			want := api.ErrFull
			if now >= 100 && ending > 0 {
				want = api.OK
			}
			x.mustRotate(t, want, set(key("b", "y")), now, 1)
		}
	}
}

// 24.4: the others keep their ends; a dropped newest one leaves none without an end.
func TestDrop(t *testing.T) {
	t.Parallel()
	build := func() *pair {
		x := newPair()
		x.mustRotate(t, api.OK, set(key("a", "x")), 0, 0)
		x.mustRotate(t, api.OK, set(key("b", "y")), 10, 40)
		x.mustRotate(t, api.OK, set(key("c", "z")), 20, 10)
		return x
	}
	x := build()
	for _, version := range []int64{low, -1, 0, 4, 5, 1 << 32, 1<<32 + 1, high} {
		x.mustDrop(t, api.ErrVersion, version)
	}
	x.mustTell(t, 20, 3, 2, 1)
	x.mustDrop(t, api.OK, 3)
	x.mustTell(t, 20, 2, 1)
	x.mustVerify(t, api.ErrNoKey, 0, token("c", "z"), 20)
	x.mustVerify(t, api.OK, 2, token("b", "y"), 29)
	x.mustDrop(t, api.OK, 2) // live at the clock, though it would have ended at 30
	x.mustTell(t, 29, 1)
	x.mustRotate(t, api.OK, set(key("d", "w")), 40, 1000)
	x.mustVerify(t, api.OK, 1, token("a", "x"), 49) // its end stays 50
	x.mustVerify(t, api.ErrNoKey, 0, token("a", "x"), 50)
	x.mustDrop(t, api.ErrVersion, 1) // it has ended
	x.mustDrop(t, api.ErrVersion, 2)
	x.mustDrop(t, api.ErrVersion, 3)
	x.mustDrop(t, api.OK, 4)
	x.mustTell(t, 50)
	x.mustVerify(t, api.ErrNoKey, 0, token("d", "w"), 50)
	x = build()
	x.mustDrop(t, api.OK, 1)
	x.mustDrop(t, api.ErrVersion, 1)
	x.mustTell(t, 20, 3, 2)
	x.mustVerify(t, api.ErrNoKey, 0, token("a", "x"), 20)
	x.mustVerify(t, api.OK, 2, token("b", "y"), 20)
	x.mustRotate(t, api.OK, set(), 25, 0) // 3 has been the newest all along: it ends now
	x.mustTell(t, 25, 4, 2)
	x.mustDrop(t, api.ErrVersion, 3)
}

// 24.4: a set that ends behind the clock is dropped, one that ends at it is not, whoever moved the clock there.
func TestDropAtTheEnd(t *testing.T) {
	t.Parallel()
	for now, want := range map[int64]api.Errno{10: api.OK, 29: api.OK, 30: api.ErrVersion, 31: api.ErrVersion, high: api.ErrVersion} {
		for mover := range 3 {
			x := newPair()
			x.mustRotate(t, api.OK, set(key("a", "x")), 0, 0)
			x.mustRotate(t, api.OK, set(), 10, 20)
			switch mover {
			case 0:
				x.verify(t, token("a", "x"), asked, now)
			case 1:
				x.verify(t, "no token", api.Policy{Leeway: -1}, now)
			default:
				x.mustRotate(t, api.OK, set(), now, 0)
			}
			x.mustTell(t, now-1, x.slow.versions(now)...)
			x.mustDrop(t, want, 1)
		}
	}
}

// 24.3 and 24.4: asking moves no clock, nor does Drop.
func TestClockStays(t *testing.T) {
	t.Parallel()
	x := newPair()
	x.mustTell(t, high)
	x.mustDrop(t, api.ErrVersion, 1)
	x.mustRotate(t, api.OK, set(key("a", "x")), 0, 0)
	x.mustRotate(t, api.OK, set(key("b", "y")), 10, 10)
	x.mustTell(t, high, 2)
	x.mustTell(t, 20, 2)
	x.mustTell(t, low, 2, 1)
	x.mustDrop(t, api.ErrVersion, 7)
	x.mustVerify(t, api.OK, 1, token("a", "x"), 10)
	x.mustDrop(t, api.OK, 2)
	x.mustVerify(t, api.OK, 1, token("a", "x"), 10)
	x.mustRotate(t, api.OK, set(), 10, 0)
}

// long: a token of the kid k or kk with just so many bytes, blanks at its end.
func long(t *testing.T, length int) string {
	t.Helper()
	for _, kid := range []string{"k", "kk"} {
		room := (length - len(token(kid, "x"))) * 3 / 4
		for blanks := room - 2; blanks <= room+2; blanks++ {
			if l := signed(headOf(kid), me+strings.Repeat(" ", blanks), "x"); len(l) == length {
				return l
			}
		}
	}
	t.Fatalf("no token of %d bytes", length)
	return ""
}

// MaxKeys and MaxToken: taken; one past it: ErrLarge.
func TestLimits(t *testing.T) {
	t.Parallel()
	a := set(key("a", "x"))
	x := newPair()
	x.mustRotate(t, api.ErrLarge, a+strings.Repeat(" ", 262145-len(a)), 0, 0)
	for range 8 {
		x.mustRotate(t, api.OK, a+strings.Repeat(" ", 262144-len(a)), 0, 9)
	}
	x.mustRotate(t, api.ErrFull, a+strings.Repeat(" ", 262144-len(a)), 0, 9)
	x.mustVerify(t, api.OK, 8, token("a", "x"), 0)
	x.mustVerify(t, api.ErrNoKey, 0, token("b", "x"), 0)
	x.mustRotate(t, api.OK, set(key("k", "x"), key("kk", "x")), 9, 0)
	for length, want := range map[int]api.Errno{65534: api.OK, 65535: api.OK, 65536: api.OK, 65537: api.ErrLarge, 65538: api.ErrLarge} {
		x.mustVerify(t, want, map[bool]int64{true: 9}[want == api.OK], long(t, length), 9)
	}
	deep := func(n int) string {
		return set(key("a", "x", `,"more":`, strings.Repeat("[", n), strings.Repeat("]", n)))
	}
	x.mustRotate(t, api.ErrDeep, deep(30), 9, 0)
	x.mustRotate(t, api.OK, deep(29), 9, 0)
	x.mustVerify(t, api.OK, 10, token("a", "x"), 9)
}
