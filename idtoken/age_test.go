package idtoken_test

import (
	"fmt"
	"math/big"
	"math/rand"
	"testing"

	"signet/api"
	"signet/idtoken"
)

func aged(most, leeway int64) api.Want {
	return api.Want{Client: "c", HasAge: true, MaxAge: most, Leeway: leeway}
}

// Step 8: auth_time must be a whole number, as it is spelled.
func TestAuthTime(t *testing.T) {
	t.Parallel()
	for _, s := range []string{`0`, `-0`, `1`, `100`, `9223372036854775807`} {
		mustCheck(t, api.OK, full(t, `"auth_time":`+s), api.RS256, aged(0, 0), 0)
		mustCheck(t, api.OK, full(t, `"auth_time":`+s), api.RS256, aged(0, 0), low)
	}
	for _, s := range append([]string{`1.0`, `1e3`, `1E3`, `100e0`, `0.0`, `-0.0`, `0e0`, `9223372036854775808`, `-9223372036854775809`, `18446744073709551616`, `"1"`, `""`, `"100"`}, otherKinds[7:]...) {
		for _, now := range []int64{low, 0, high} {
			mustCheck(t, api.ErrAge, full(t, `"auth_time":`+s), api.RS256, aged(1<<31, 600), now)
		}
	}
	for _, s := range []string{`"x":{"auth_time":1}`, `"AUTH_TIME":1`, `"auth_time ":1`, `"authtime":1`, `"iat ":1`, `"":1`} {
		mustCheck(t, api.ErrAge, full(t, s), api.RS256, aged(1<<31, 600), 0)
	}
	mustCheck(t, api.ErrAge, full(t), api.RS256, aged(0, 0), low)
}

// The last clock that is let by is the sum of the three; the next one is not. No sum wraps.
func TestAgeEdges(t *testing.T) {
	t.Parallel()
	var times []int64
	for _, base := range []int64{low, -1 << 31, 0, 1700000000, 1 << 31, 1 << 32, high - 1<<31 - 600, high - 1<<31, high - 600, high} {
		for d := int64(-2); d <= 2; d++ {
			times = append(times, base+d)
		}
	}
	for _, at := range times {
		c := full(t, fmt.Sprintf(`"auth_time":%d`, at))
		for _, most := range []int64{0, 1, 10, 1<<31 - 1, 1 << 31} {
			for _, leeway := range []int64{0, 1, 5, 599, 600} {
				w := aged(most, leeway)
				end := new(big.Int).Add(big.NewInt(at), big.NewInt(most+leeway))
				if !end.IsInt64() {
					mustCheck(t, api.OK, c, api.RS256, w, high)
					continue
				}
				last := end.Int64()
				mustCheck(t, api.OK, c, api.RS256, w, last)
				if last < high {
					mustCheck(t, api.ErrAge, c, api.RS256, w, last+1)
					mustCheck(t, api.ErrAge, c, api.RS256, w, high)
				}
			}
		}
	}
}

// 22.4: of the clocks at which one token is asked, those that let it by are the least ones; and nothing but ErrAge comes in at a greater one.
func TestEveryLesserClock(t *testing.T) {
	t.Parallel()
	r := rand.New(rand.NewSource(1))
	for range 10000 {
		p := drawnPlan(r)
		c, a, w, _ := p.laid(t, r)
		one, two := drawnTime(r), drawnTime(r)
		one, two = min(one, two), max(one, two)
		early, late := idtoken.Check(c, a, w, one), idtoken.Check(c, a, w, two)
		if late == api.OK && early != api.OK {
			t.Fatalf("22.4: Check(%s, %d, %s) is let by at %d, and %d at %d", short(c), int(a), short(w), two, int(early), one)
		}
		if late != early && (early != api.OK || late != api.ErrAge) {
			t.Fatalf("22.4: Check(%s, %d, %s) is %d at %d, and %d at %d", short(c), int(a), short(w), int(early), one, int(late), two)
		}
	}
}

// All clocks around a window's end, one behind the other.
func TestEveryClock(t *testing.T) {
	t.Parallel()
	c, w := full(t, `"auth_time":100`), aged(10, 5)
	for now := int64(-200); now <= 400; now++ {
		want := api.OK
		if now > 115 {
			want = api.ErrAge
		}
		mustCheck(t, want, c, api.RS256, w, now)
	}
}
