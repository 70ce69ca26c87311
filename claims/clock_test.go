package claims_test

import (
	"testing"

	"signet/api"
	"signet/claims"
)

// The rows of the chapter's second table.
func TestTimeExamples(t *testing.T) {
	t.Parallel()
	exp := api.Claims{Exp: at(10)}
	mustClock(t, api.OK, exp, 0, 9)
	mustClock(t, api.ErrExpired, exp, 0, 10)
	mustOpen(t, api.Window{From: low, To: 9}, exp, 0)
	mustClock(t, api.OK, exp, 5, 14)
	mustClock(t, api.ErrExpired, exp, 5, 15)
	begins := api.Claims{Nbf: at(10), Iat: at(20)}
	mustClock(t, api.ErrEarly, begins, 5, 4)
	mustClock(t, api.ErrFuture, begins, 5, 5)
	mustClock(t, api.OK, begins, 5, 15)
	mustOpen(t, api.Window{From: 15, To: high}, begins, 5)
	both := api.Claims{Exp: at(10), Nbf: at(20)}
	mustOpen(t, api.Window{Empty: true}, both, 0)
	mustOpen(t, api.Window{Empty: true}, both, 5)
	mustOpen(t, api.Window{From: 14, To: 15}, both, 6)
	mustOpen(t, api.Window{Empty: true}, api.Claims{Exp: at(low)}, 0)
	mustOpen(t, api.Window{From: low, To: low}, api.Claims{Exp: at(low)}, 1)
	mustOpen(t, api.Window{From: low, To: high}, api.Claims{Exp: at(high)}, 600)
	mustClock(t, api.ErrPolicy, api.Claims{Exp: at(5)}, 601, 0)
	if w, code := claims.Open(api.Claims{Exp: at(5)}, 601); w != (api.Window{}) || code != api.ErrPolicy {
		t.Fatalf("19.4: %+v, %d", w, int(code))
	}
}

// Leeways outside 0 to MaxLeeway are told first, whatever the claims and the clock.
func TestLeeway(t *testing.T) {
	t.Parallel()
	for _, c := range []api.Claims{{}, {Exp: at(low)}, {Exp: at(high), Nbf: at(high), Iat: at(high)}} {
		for _, leeway := range []int64{low, low + 1, -600, -2, -1, 601, 602, 1 << 32, 1<<32 + 5, high - 1, high} {
			for _, now := range []int64{low, -1, 0, 1, high} {
				mustClock(t, api.ErrPolicy, c, leeway, now)
			}
			if w, code := holdOpen(t, c, leeway); w != (api.Window{}) || code != api.ErrPolicy {
				t.Fatalf("19.4: Open(%s, %d) = %+v, %d", short(c), leeway, w, int(code))
			}
		}
		for leeway := range int64(601) {
			if _, code := holdOpen(t, c, leeway); code != api.OK {
				t.Fatalf("19.4: Open(%s, %d) = %d", short(c), leeway, int(code))
			}
		}
	}
}

// moments: times that are not there, or there, at the ends of all clocks and in the middle.
func moments() []api.Time {
	out := []api.Time{{}, {At: low}, {At: high}, {At: 7}}
	for _, base := range []int64{low, low + 2, low + 600, -600, 0, 3, 600, high - 601, high - 600, high - 2} {
		for d := range int64(3) {
			out = append(out, at(base+d))
		}
	}
	return out
}

// Every choice of three of them, with leeways of all sorts.
func TestTimes(t *testing.T) {
	t.Parallel()
	l := moments()
	met := map[bool]int{}
	for _, exp := range l {
		for _, nbf := range l {
			for _, iat := range l {
				for _, leeway := range []int64{0, 1, 600} {
					c := api.Claims{Exp: exp, Nbf: nbf, Iat: iat}
					w, _ := claims.Open(c, leeway)
					if want, _ := wantOpen(c, leeway); w != want {
						t.Fatalf("19.4: Open(%s, %d) = %+v, want %+v", short(c), leeway, w, want)
					}
					met[w.Empty]++
				}
			}
		}
	}
	if met[true] < 1000 || met[false] < 1000 {
		t.Fatalf("empty and not: %v", met)
	}
	for _, exp := range l {
		for _, from := range l {
			for _, leeway := range []int64{0, 1, 2, 3, 599, 600} {
				holdOpen(t, api.Claims{Exp: exp, Nbf: from}, leeway)
				holdOpen(t, api.Claims{Exp: exp, Iat: from}, leeway)
				holdOpen(t, api.Claims{Nbf: exp, Iat: from}, leeway)
			}
		}
	}
}

// Every clock of a small world, with no gap in what is let by: at the ends of all clocks and in the middle.
func TestEveryClock(t *testing.T) {
	t.Parallel()
	const wide = 8
	for _, least := range []int64{low, -wide / 2, high - wide} {
		for mask := range 8 {
			for exp := range int64(wide + 1) {
				for nbf := range int64(wide + 1) {
					c := api.Claims{Exp: api.Time{Has: mask&1 != 0, At: least + exp}, Nbf: api.Time{Has: mask&2 != 0, At: least + nbf}, Iat: api.Time{Has: mask&4 != 0, At: least + (nbf*5+exp)%(wide+1)}}
					for _, leeway := range []int64{0, 1, 2, 5, 9} {
						for now := range int64(wide + 1) {
							holdClock(t, c, leeway, least+now)
						}
					}
				}
			}
		}
	}
}

// 19.6: no sum wraps, whatever the clock.
func TestNoWrap(t *testing.T) {
	t.Parallel()
	clocks := []int64{low, low + 1, low + 599, low + 600, low + 601, -1, 0, 1, high - 601, high - 600, high - 599, high - 1, high}
	for leeway := range int64(601) {
		for _, now := range clocks {
			if leeway > 0 {
				mustClock(t, api.OK, api.Claims{Exp: at(high)}, leeway, now)
				mustClock(t, api.OK, api.Claims{Exp: at(high - leeway + 1)}, leeway, now)
			}
			mustClock(t, api.OK, api.Claims{Nbf: at(low)}, leeway, now)
			mustClock(t, api.OK, api.Claims{Iat: at(low)}, leeway, now)
			mustClock(t, api.OK, api.Claims{Nbf: at(low + leeway), Iat: at(low + leeway)}, leeway, now)
		}
		mustClock(t, api.ErrExpired, api.Claims{Exp: at(high - leeway)}, leeway, high)
		mustClock(t, api.OK, api.Claims{Exp: at(high - leeway)}, leeway, high-1)
		mustClock(t, api.ErrEarly, api.Claims{Nbf: at(low + leeway + 1)}, leeway, low)
		mustClock(t, api.ErrFuture, api.Claims{Iat: at(low + leeway + 1)}, leeway, low)
		mustClock(t, api.OK, api.Claims{Nbf: at(low + leeway + 1), Iat: at(low + leeway + 1)}, leeway, low+1)
		mustClock(t, api.ErrEarly, api.Claims{Nbf: at(high)}, leeway, low)
		mustClock(t, api.ErrExpired, api.Claims{Exp: at(low)}, leeway, high)
	}
}

// Of several reasons the first is told: expired, early, in the future.
func TestTimeOrder(t *testing.T) {
	t.Parallel()
	for mask := range 8 {
		c, want := api.Claims{}, api.OK
		if mask&4 != 0 {
			c.Iat, want = at(200), api.ErrFuture
		}
		if mask&2 != 0 {
			c.Nbf, want = at(300), api.ErrEarly
		}
		if mask&1 != 0 {
			c.Exp, want = at(50), api.ErrExpired
		}
		for _, leeway := range []int64{0, 7, 50} {
			mustClock(t, want, c, leeway, 100)
		}
	}
}

// Nothing else of the claims counts: neither the value nor the other fields.
func TestTimesAlone(t *testing.T) {
	t.Parallel()
	v := parsed(t, `{"exp":5,"nbf":9,"iat":9,"iss":"i"}`).Value
	full := api.Claims{Value: v, Iss: "i", HasIss: true, Sub: "s", HasSub: true, Aud: []string{"a"}, HasAud: true, Jti: "j", HasJti: true}
	mustOpen(t, api.Window{From: low, To: high}, full, 0)
	mustClock(t, api.OK, full, 0, 7)
	full.Exp, full.Nbf, full.Iat = at(30), at(20), at(10)
	mustOpen(t, api.Window{From: 20, To: 29}, full, 0)
	mustOpen(t, api.Window{From: 10, To: 39}, full, 10)
	full.Value = []api.Node{{Kind: 99, Kids: -5}}
	mustOpen(t, api.Window{From: 20, To: 29}, full, 0)
	// A time that is not there says nothing, whatever stands in it.
	mustOpen(t, api.Window{From: low, To: high}, api.Claims{Exp: api.Time{At: low}, Nbf: api.Time{At: high}, Iat: api.Time{At: high}}, 0)
}

// What Parse reads is what the clock asks.
func TestParsedTimes(t *testing.T) {
	t.Parallel()
	mustOpen(t, api.Window{From: -3, To: 6}, parsed(t, `{"exp":7,"nbf":-3,"iat":-9}`), 0)
	mustOpen(t, api.Window{From: low, To: -1}, parsed(t, `{"exp":-0}`), 0)
	mustOpen(t, api.Window{From: high, To: high}, parsed(t, `{"iat":9223372036854775807}`), 0)
	mustOpen(t, api.Window{Empty: true}, parsed(t, `{"exp":-9223372036854775808}`), 0)
	mustOpen(t, api.Window{From: low, To: high - 1}, parsed(t, `{"exp":9223372036854775807,"nbf":-9223372036854775808}`), 0)
}
