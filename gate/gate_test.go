package gate_test

import (
	"strings"
	"testing"

	"signet/api"
)

// The chapter's examples.
func TestExamples(t *testing.T) {
	t.Parallel()
	build := func() *pair {
		x := mustNew(t, asked, "")
		x.mustLen(t, 0)
		x.mustRotate(t, api.OK, usual, 100, 0)
		return x
	}
	token := ticket(by(), "a", 200)
	x := build()
	x.mustTake(t, api.OK, token, 150)
	x.mustTake(t, api.ErrReplay, token, 150)
	x.mustLen(t, 1)
	x.mustTake(t, api.ErrBack, token, 140)
	x.mustTake(t, api.ErrExpired, token, 200)
	x.mustLen(t, 1) // the book was asked at 150
	build().mustBatch(t, []string{token, token}, 150, api.OK, api.ErrReplay)
}

// 26.1: the leeway ahead of the rule; a refusal answers no gate.
func TestNew(t *testing.T) {
	t.Parallel()
	brackets := func(n int) string { return strings.Repeat("(", n) + "has a" + strings.Repeat(")", n) }
	texts := map[string]api.Errno{
		"": api.OK, "has a": api.OK, " has a\n": api.OK, "not a.b = 1 or a contains \"x\"": api.OK, brackets(32): api.OK, "has a" + strings.Repeat(" ", 1019): api.OK,
		" ": api.ErrRule, "\x00": api.ErrRule, "has": api.ErrRule, "a = 01": api.ErrRule, "(": api.ErrRule, "has a has b": api.ErrRule,
		brackets(33): api.ErrDeep, "has a" + strings.Repeat(" ", 1020): api.ErrLarge, strings.Repeat("(", 1025): api.ErrLarge,
	}
	for text, want := range texts {
		if told := wantNew(asked, text); told != want {
			t.Fatalf("rules.Parse(%.80q) is %d", text, int(told))
		}
		for _, leeway := range []int64{0, 1, 599, 600} {
			if want == api.OK {
				mustNew(t, api.Policy{Leeway: leeway}, text)
			} else {
				mustRefuse(t, want, api.Policy{Leeway: leeway}, text)
			}
		}
		for _, leeway := range []int64{low, -601, -600, -1, 601, 1 << 32, 1<<32 + 5, high} {
			mustRefuse(t, api.ErrPolicy, api.Policy{Leeway: leeway}, text)
		}
	}
}

// 26.1: an empty ring and an empty book, and no clock yet.
func TestEmpty(t *testing.T) {
	t.Parallel()
	for _, now := range []int64{low, low + 1, -1, 0, 1, high - 1, high} {
		x := mustNew(t, asked, "")
		x.mustLen(t, 0)
		x.mustTake(t, api.ErrNoKey, pays(`{}`), now)
		x.mustLen(t, 0)
		if now > low {
			x.mustTake(t, api.ErrBack, pays(`{}`), now-1)
		}
		x.mustRotate(t, api.OK, usual, now, 0)
		if now < high {
			x.mustTake(t, api.OK, ticket(by(), "a", now+1), now)
			x.mustLen(t, 1)
		}
		y := mustNew(t, asked, "")
		y.mustBatch(t, []string{pays(`{}`), "", pays(`{}`)}, now, api.ErrNoKey, api.ErrDots, api.ErrNoKey)
		y.mustLen(t, 0)
	}
}

// 26.1: the policy is the one that was given.
func TestPolicy(t *testing.T) {
	t.Parallel()
	p := api.Policy{Algs: []string{"HS512", "HS256"}, HasIss: true, Iss: "joe", HasAud: true, Aud: "me", HasTyp: true, Typ: "at", Leeway: 7, Need: []string{"sub", "n"}}
	x := mustNew(t, p, "")
	x.mustRotate(t, api.OK, usual, 0, 0)
	const head = `{"alg":"HS256","kid":"k","typ":"at"}`
	rest := []string{`,"aud":["you","me"]`, `,"sub":"s"`, `,"n":0`}
	all := strings.Join(rest, "")
	x.mustTake(t, api.ErrTyp, ticket(by("joe"), "a", 9, all), 1)
	x.mustTake(t, api.ErrIss, signed(head, claim(by("jim"), "a", 9, all), "x"), 1)
	x.mustTake(t, api.ErrIss, signed(head, claim(by(), "a", 9, all), "x"), 1)
	x.mustTake(t, api.ErrAud, signed(head, claim(by("joe"), "a", 9, rest[1:]...), "x"), 1)
	x.mustTake(t, api.ErrMissing, signed(head, claim(by("joe"), "a", 9, rest[0], rest[2]), "x"), 1)
	x.mustTake(t, api.ErrMissing, signed(head, claim(by("joe"), "a", 9, rest[:2]...), "x"), 1)
	x.mustTake(t, api.ErrBarred, signed(`{"alg":"HS384","kid":"k","typ":"at"}`, claim(by("joe"), "a", 9, all), "x"), 1)
	x.mustTake(t, api.ErrExpired, signed(head, claim(by("joe"), "a", -6, all), "x"), 1)
	x.mustLen(t, 0)
	x.mustTake(t, api.OK, signed(head, claim(by("joe"), "a", -5, all), "x"), 1)
	x.mustLen(t, 1)
}

// A rule is asked of the payload; the empty one lets all by.
func TestRule(t *testing.T) {
	t.Parallel()
	for rule, let := range map[string]string{ // of the tokens below, in their order
		"":                                   "yyyy",
		"has sub":                            "yynn",
		"not has sub":                        "nnyy",
		`sub = "s"`:                          "ynnn",
		`sub = "s" or n.deep.1 >= 2`:         "ynyn",
		`has jti and exp <= 200 and has n`:   "nnyy",
		`jti contains "d"`:                   "nnny",
		"has nothing":                        "nnnn",
		`iss != "" and not iss = "somebody"`: "nnnn",
	} {
		x := openWith(t, 0, rule)
		for i, token := range []string{
			ticket(by(), "a", 200, `,"sub":"s"`), ticket(by(), "b", 200, `,"sub":"t"`), ticket(by(), "c", 200, `,"n":{"deep":[1,2]}`), ticket(by(), "d", 200, `,"n":{"deep":[1]}`),
		} {
			want := api.ErrDenied
			if let[i] == 'y' {
				want = api.OK
			}
			x.mustTake(t, want, token, 100)
		}
		x.mustLen(t, strings.Count(let, "y"))
	}
}

// 26.3: jti and exp must be there, whatever they are.
func TestMissing(t *testing.T) {
	t.Parallel()
	x := open(t, 0)
	for _, pay := range []string{`{}`, `{"jti":"a"}`, `{"exp":9}`, `{"iss":"a","exp":9}`, `{"iss":"a","jti":"a","sub":"exp"}`, `{"jtI":"a","exp":9}`, `{"x":{"jti":"a","exp":9}}`, `{"nbf":1,"iat":1,"jti":"a"}`} {
		x.mustTake(t, api.ErrMissing, pays(pay), 5)
		x.mustLen(t, 0)
	}
	for _, pay := range []string{`{"jti":1,"exp":9}`, `{"jti":null,"exp":9}`, `{"jti":"a","exp":"9"}`, `{"jti":"a","exp":9.0}`, `{"jti":"a","exp":9,"iss":1}`} {
		x.mustTake(t, api.ErrClaim, pays(pay), 5)
	}
	x.mustTake(t, api.ErrClaims, pays(`[]`), 5)
	x.mustTake(t, api.OK, pays(`{"jti":"","exp":9}`), 5)
	x.mustTake(t, api.OK, pays(`{"exp":6,"jti":"a"}`), 5)
	x.mustTake(t, api.ErrExpired, pays(`{"exp":-0,"jti":"b"}`), 5)
	x.mustLen(t, 2)
}

// words: all texts of up to so many of these signs.
func words(most int, signs ...string) []string {
	l, last := []string{""}, []string{""}
	for range most {
		var longer []string
		for _, w := range last {
			for _, s := range signs {
				longer = append(longer, w+s)
			}
		}
		l, last = append(l, longer...), longer
	}
	return l
}

// No two pairs of issuer and jti are one, however they run into each other; one pair is one, however it is spelled.
func TestPairs(t *testing.T) {
	t.Parallel()
	x := open(t, 0)
	count := 0
	var first, again []string
	add := func(iss []string, jti string) {
		first = append(first, ticket(iss, jti, 200))
		again = append(again, ticket(iss, jti, 300, `,"sub":"s"`))
	}
	for _, jti := range append(words(2, "-", ":", "0", "1", "a"), "-:a", "1:a", "2:1:", "a1:", "0:a", "\x00", "é", "\u00c3\u00a9") {
		for _, iss := range append(words(2, "-", ":", "0", "1"), "1:a", "0:a", "\x00", "é") {
			add(by(iss), jti)
			count++
		}
		add(by(), jti)
		count++
	}
	for i, v := range x.batch(t, first, 100) {
		if v.Code != api.OK {
			t.Fatalf("26.3: %q is refused with %d", v.Claims.Jti, int(v.Code))
		}
		x.mustTake(t, api.ErrReplay, again[i], 100)
	}
	x.mustLen(t, count)
	for _, pay := range []string{`{"jti":"\u0061","exp":200}`, `{"exp":201,"jti":"a","aud":[]}`, ` { "exp" : 200 , "jti" : "a" } `} {
		want := api.ErrReplay
		if strings.Contains(pay, "aud") {
			want = api.ErrAud
		}
		x.mustTake(t, want, pays(pay), 100)
	}
	x.mustTake(t, api.ErrReplay, pays(`{"iss":"\u003a","jti":"\u002d","exp":200}`), 100)
	x.mustTake(t, api.OK, pays(`{"jti":"A","exp":200}`), 100)
}

// The end of a name: exp and leeway together less one, that clock counted.
func TestEnds(t *testing.T) {
	t.Parallel()
	for _, leeway := range []int64{0, 1, 5, 599, 600} {
		for _, exp := range []int64{low + 700, -1, 0, 1, 200, 1700000000, high - 3000} {
			last := exp + leeway - 1
			for _, start := range []int64{last - 3, last} {
				x := open(t, leeway)
				x.mustTake(t, api.OK, ticket(by("joe"), "a", exp), start)
				x.mustTake(t, api.ErrReplay, ticket(by("joe"), "a", exp+1), last)
				x.mustTake(t, api.ErrExpired, ticket(by("joe"), "a", exp), last+1)
				x.mustLen(t, 1) // the book was asked at its end
				x.mustTake(t, api.OK, ticket(by("joe"), "a", exp+1), last+1)
				x.mustLen(t, 1)
				x.mustTake(t, api.ErrReplay, ticket(by("joe"), "a", exp+2000), last+1)
				x.mustTake(t, api.OK, ticket(by("joe"), "a", exp+2000), last+2)
				x.mustLen(t, 1)
			}
		}
	}
}

// At both ends of time no sum wraps: behind 2^63 - 1 nothing ends.
func TestEndsOfTime(t *testing.T) {
	t.Parallel()
	for _, c := range []struct {
		exp, leeway int64
		forever     bool
	}{
		{high, 0, false}, {high - 1, 1, false}, {high - 600, 600, false}, {high - 5, 5, false},
		{high, 1, true}, {high, 600, true}, {high - 599, 600, true}, {high - 4, 5, true},
	} {
		x := open(t, c.leeway)
		x.mustTake(t, api.OK, ticket(by(), "a", c.exp), 0)
		x.mustTake(t, api.ErrReplay, ticket(by(), "a", c.exp), high-1)
		x.mustLen(t, 1)
		switch {
		case c.forever:
			x.mustTake(t, api.ErrReplay, ticket(by(), "a", c.exp), high)
			x.mustTake(t, api.ErrReplay, ticket(by(), "a", high), high)
			x.mustLen(t, 1)
		case c.leeway > 0:
			x.mustTake(t, api.ErrExpired, ticket(by(), "a", c.exp), high)
			x.mustTake(t, api.OK, ticket(by(), "a", high), high)
			x.mustTake(t, api.ErrReplay, ticket(by(), "a", high), high)
			x.mustLen(t, 1)
		default:
			x.mustTake(t, api.ErrExpired, ticket(by(), "b", high), high) // every exp is one: none is above the clock
			x.mustLen(t, 1)
		}
		x.mustTake(t, api.ErrBack, ticket(by(), "c", high), high-1)
	}
	x := open(t, 1)
	x.mustTake(t, api.OK, ticket(by(), "a", low), low)
	x.mustTake(t, api.ErrReplay, ticket(by(), "a", high), low)
	x.mustTake(t, api.OK, ticket(by(), "a", high), low+1)
	x.mustLen(t, 1)
	x = open(t, 0)
	x.mustTake(t, api.ErrExpired, ticket(by(), "a", low), low)
	x.mustTake(t, api.OK, ticket(by(), "a", low+1), low)
	x.mustTake(t, api.OK, ticket(by(), "a", low+2), low+1)
	x.mustLen(t, 1)
}

// The end goes by exp and leeway alone, not by the other times.
func TestOtherTimes(t *testing.T) {
	t.Parallel()
	x := open(t, 5)
	x.mustTake(t, api.OK, ticket(by(), "a", 200, `,"nbf":105,"iat":103`), 100)
	x.mustTake(t, api.ErrReplay, ticket(by(), "a", 300), 204)
	x.mustTake(t, api.OK, ticket(by(), "a", 300), 205)
	x.mustTake(t, api.ErrEarly, ticket(by(), "b", 300, `,"nbf":211`), 205)
	x.mustTake(t, api.ErrFuture, ticket(by(), "b", 300, `,"iat":211`), 205)
	x.mustTake(t, api.OK, ticket(by(), "b", 206, `,"nbf":210`), 205)
	x.mustLen(t, 2)
}

// MaxJti bytes of a name, with all that stands ahead of the jti: taken; one more: ErrLarge, and the book isn't asked.
func TestLongNames(t *testing.T) {
	t.Parallel()
	x := open(t, 0)
	x.mustTake(t, api.OK, ticket(by(), "dies", 10), 5)
	count := 1
	hold := func(iss []string, size int) {
		jti := strings.Repeat("j", size-len(name(iss, "")))
		want := api.OK
		if size > 1024 {
			want = api.ErrLarge
		} else {
			count++
		}
		x.mustTake(t, want, ticket(iss, jti, 900), 5)
		x.mustLen(t, count)
	}
	for size := 1022; size <= 1027; size++ {
		hold(by(), size)
		for _, n := range []int{0, 1, 2, 9, 10, 11, 99, 100, 101, 500, 999, 1000, 1001, 1016, 1017} {
			hold(by(strings.Repeat("i", n)), size)
		}
		hold(by(strings.Repeat("é", 500)), size)
	}
	for _, n := range []int{1018, 1019, 1020, 1024, 9999, 20000} {
		want := api.ErrLarge
		if n == 1019 || n == 1018 {
			want = api.OK
			count++
		}
		x.mustTake(t, want, ticket(by(strings.Repeat("n", n)), "", 900), 5)
	}
	x.mustTake(t, api.ErrLarge, ticket(by(), strings.Repeat("j", 1023), 900), 50)
	x.mustLen(t, count) // that of 5, though the clock has moved on
	x.mustTake(t, api.ErrBack, ticket(by(), "a", 900), 49)
	x.mustTake(t, api.ErrReplay, ticket(by(), strings.Repeat("j", 1022), 900), 50)
	x.mustLen(t, count-1)
}

// 26.5: Len is that of the clock at which the book was asked last, whatever moves the clock on.
func TestLen(t *testing.T) {
	t.Parallel()
	build := func() *pair {
		x := openWith(t, 0, "not has bad")
		for i, exp := range []int64{110, 120, 130, 140, 500} {
			x.mustTake(t, api.OK, ticket(by(), string(rune('a'+i)), exp), 100)
		}
		x.mustLen(t, 5)
		return x
	}
	deaf := []func(x *pair, now int64){ // what moves the clock on, and doesn't come to the book
		func(x *pair, now int64) { x.mustTake(t, api.ErrDots, "", now) },
		func(x *pair, now int64) { x.mustTake(t, api.ErrExpired, ticket(by(), "a", now), now) },
		func(x *pair, now int64) { x.mustTake(t, api.ErrDenied, ticket(by(), "n", 900, `,"bad":0`), now) },
		func(x *pair, now int64) { x.mustTake(t, api.ErrMissing, pays(`{"jti":"n"}`), now) },
		func(x *pair, now int64) { x.mustTake(t, api.ErrMissing, pays(`{"exp":900}`), now) },
		func(x *pair, now int64) {
			x.mustTake(t, api.ErrLarge, ticket(by(), strings.Repeat("n", 1023), 900), now)
		},
		func(x *pair, now int64) { x.mustBatch(t, []string{"", "."}, now, api.ErrDots, api.ErrDots) },
		func(x *pair, now int64) { x.mustRotate(t, api.OK, usual, now, 0) },
	}
	for _, ask := range deaf {
		for now, want := range map[int64]int{100: 5, 109: 5, 110: 4, 119: 4, 120: 3, 135: 2, 140: 1, 499: 1} {
			x := build()
			ask(x, now)
			x.mustLen(t, 5)
			if now > 100 {
				x.mustTake(t, api.ErrBack, ticket(by(), "e", 500), now-1)
				x.mustRotate(t, api.ErrBack, usual, now-1, 0)
			}
			x.mustLen(t, 5)
			x.mustTake(t, api.ErrReplay, ticket(by(), "e", 500), now)
			x.mustLen(t, want)
			x.mustTake(t, api.OK, ticket(by(), "f", 500), now)
			x.mustLen(t, want+1)
		}
		x := build()
		ask(x, 500)
		x.mustLen(t, 5)
		x.mustTake(t, api.OK, ticket(by(), "e", 501), 500)
		x.mustLen(t, 1)
	}
}

// 26.2: the answers are the ring's, and what it does to the tokens.
func TestRotate(t *testing.T) {
	t.Parallel()
	x := mustNew(t, asked, "")
	a, b := signed(headOf("a"), claim(by(), "a", 900), "x"), signed(headOf("b"), claim(by(), "b", 900), "y")
	x.mustRotate(t, api.OK, set(key("a", "x")), 100, 0)
	x.mustRotate(t, api.ErrBack, set(), 99, 0)
	x.mustRotate(t, api.ErrPolicy, set(), 100, -1)
	x.mustRotate(t, api.ErrPolicy, "", 100, 4294967297)
	x.mustRotate(t, api.ErrJson, "", 200, 0)
	x.mustRotate(t, api.ErrMember, `[]`, 200, 0)
	x.mustRotate(t, api.ErrLarge, strings.Repeat(" ", 262145), 200, 0)
	x.mustTake(t, api.ErrNoKey, b, 100)
	x.mustRotate(t, api.OK, set(key("b", "y")), 110, 20)
	x.mustTake(t, api.ErrBack, a, 109)
	x.mustTake(t, api.OK, a, 129)
	x.mustTake(t, api.ErrReplay, a, 129)
	x.mustTake(t, api.OK, b, 129)
	x.mustTake(t, api.ErrNoKey, a, 130)
	x.mustRotate(t, api.OK, set(key("a", "y")), 130, 4294967296)
	x.mustTake(t, api.ErrSignature, a, 130)
	x.mustTake(t, api.ErrReplay, signed(headOf("a"), claim(by(), "b", 950), "y"), 130) // once, whichever key it comes with
	x.mustTake(t, api.ErrReplay, signed(headOf("a"), claim(by(), "a", 950), "y"), 130)
	x.mustTake(t, api.OK, signed(headOf("a"), claim(by(), "c", 950), "y"), 130)
	for range 6 {
		x.mustRotate(t, api.OK, set(), 130, 100)
	}
	x.mustRotate(t, api.ErrFull, set(), 229, 100)
	x.mustRotate(t, api.OK, set(), 230, 100)
	x.mustLen(t, 3)
}

// The clock moves with all but ErrBack, and does not come back.
func TestClock(t *testing.T) {
	t.Parallel()
	x := open(t, 0)
	steps := []struct {
		token string
		want  api.Errno
	}{
		{ticket(by(), "a", 900), api.OK}, {ticket(by(), "a", 900), api.ErrReplay}, {"a.b", api.ErrDots}, {strings.Repeat("a", 65537), api.ErrLarge}, {pays(`{}`), api.ErrMissing}, {pays(`[]`), api.ErrClaims},
		{ticket(by(), "b", 3), api.ErrExpired}, {ticket(by(), strings.Repeat("b", 1023), 900), api.ErrLarge}, {signed(headOf("z"), `{}`, "x"), api.ErrNoKey}, {signed(headOf("k"), `{}`, "z"), api.ErrSignature},
	}
	now := int64(10)
	for _, s := range steps {
		x.mustTake(t, s.want, s.token, now)
		x.mustTake(t, api.ErrBack, s.token, now-1)
		x.mustBatch(t, []string{s.token, ticket(by(), "new", 900)}, now-1, api.ErrBack, api.ErrBack)
		x.mustTake(t, api.ErrBack, ticket(by(), "new", 900), low)
		now += 5
	}
	x.mustTake(t, api.ErrExpired, ticket(by(), "new", 900), high) // that shuts it for ever
	x.mustTake(t, api.ErrBack, ticket(by(), "new", 900), now)
}
