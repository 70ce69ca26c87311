package gate_test

import (
	"math/rand"
	"slices"
	"strings"
	"testing"

	"signet/api"
	"signet/gate"
)

// wildly: a text with some bytes put in, taken away and changed.
func wildly(r *rand.Rand, s, with string) string {
	b := []byte(s)
	for range 1 + r.Intn(3) {
		at := r.Intn(len(b) + 1)
		switch c := with[r.Intn(len(with))]; {
		case r.Intn(3) == 0 || at == len(b):
			b = slices.Insert(b, at, c)
		case r.Intn(2) == 0:
			b = slices.Delete(b, at, at+1)
		default:
			b[at] = c
		}
	}
	return string(b)
}

const (
	jsonBytes  = `{}[]":,\jtiexpss019.- ` + "\xff\x00"
	tokenBytes = "..AQZaz09-_=+/ \n\r\x00\xff"
	ruleBytes  = `()"=!<>.\ andorthe019` + "\xff\x00"
)

// P1: policies, rules, payloads and tokens that nearly are some, at any clocks.
func TestWild(t *testing.T) {
	t.Parallel()
	r := rand.New(rand.NewSource(8))
	for range 150 {
		p := api.Policy{Algs: pick(r, [][]string{nil, {"none"}, {"HS256"}, {"HS256"}, {"HS256", "HS256"}}), Leeway: pick(r, []int64{low, -1, 0, 0, 5, 600, 601, high}), Need: pick(r, [][]string{nil, {"jti"}, {""}})}
		rule := pick(r, []string{"", "", wildly(r, `not has bad or exp >= 0`, ruleBytes), `has jti`, strings.Repeat("not ", 40)})
		if want := wantNew(p, rule); want != api.OK {
			mustRefuse(t, want, p, rule)
			continue
		}
		x := mustNew(t, p, rule)
		for range 40 {
			clock := int64(100)
			if n := len(x.slow.steps); n > 0 {
				clock = x.slow.steps[n-1].now
			}
			now := near(clock, int64(r.Intn(4)-1))
			if r.Intn(60) == 0 {
				now = pick(r, []int64{low, high, int64(r.Uint64())})
			}
			token := pays(wildly(r, claim(by("i"), "a", near(now, 3)), jsonBytes))
			if r.Intn(4) == 0 {
				token = wildly(r, drawn(r, now).text, tokenBytes)
			}
			switch r.Intn(5) {
			case 0:
				x.rotate(t, pick(r, []string{usual, usual, wildly(r, usual, jsonBytes)}), now, pick(r, []int64{0, 1, 9, -1, low, high}))
			case 1:
				x.batch(t, []string{token, drawn(r, now).text, token}, now)
			default:
				x.take(t, token, now)
			}
		}
	}
}

// Every beginning and every end of a token, and every byte left out of it.
func TestCut(t *testing.T) {
	t.Parallel()
	right := ticket(by("i"), "a", 900)
	x := open(t, 0)
	x.mustTake(t, api.OK, right, 5)
	var cut []string
	for i := range right {
		cut = append(cut, right[:i], right[i:], right[:i]+right[i+1:])
	}
	for i, v := range x.batch(t, cut, 5) {
		if v.Code == api.OK {
			t.Fatalf("26.4: %q is let by", cut[i])
		}
	}
	x.mustLen(t, 1)
}

// P1: what is far longer than any text may be.
func TestHuge(t *testing.T) {
	t.Parallel()
	huge := strings.Repeat("a", 1<<26)
	mustRefuse(t, api.ErrLarge, api.Policy{}, huge)
	x := open(t, 0)
	x.mustRotate(t, api.ErrLarge, huge, 5, 0)
	x.mustTake(t, api.ErrLarge, huge, 5)
	x.mustBatch(t, []string{huge, ticket(by(), "a", 900) + huge, ticket(by(), "a", 900)}, 5, api.ErrLarge, api.ErrLarge, api.OK)
}

// A gate that New did not refuse, of any policy, is one.
func TestAnyPolicy(t *testing.T) {
	t.Parallel()
	g, code := gate.New(api.Policy{}, "")
	if code != api.OK || g == nil {
		t.Fatalf("26.1: the empty policy: %d", int(code))
	}
	if code := g.Rotate(usual, 0, 0); code != api.OK {
		t.Fatalf("26.2: %d", int(code))
	}
	if _, code := g.Take(ticket(by(), "a", 900), 5); code != api.ErrBarred {
		t.Errorf("26.3: a policy that lists nothing: %d", int(code))
	}
}

// FuzzGate: any rule, two payloads of any text, any token, any clocks.
func FuzzGate(f *testing.F) {
	f.Add("", claim(by(), "a", 200), claim(by(""), "a", 200), "..", int64(5), int64(100), int64(204))
	f.Add("not has bad", claim(by("a"), "bc", 200), claim(by("ab"), "c", 200), "a.b", int64(0), int64(low), int64(199))
	f.Add("has", `{"jti":"\u0061","exp":-0}`, `{"jti":"a","exp":9223372036854775807}`, pays(`{}`), int64(600), int64(-1), int64(high))
	f.Fuzz(func(t *testing.T, rule, first, second, raw string, leeway, now, later int64) {
		p := asked
		p.Leeway = leeway
		if want := wantNew(p, rule); want != api.OK {
			mustRefuse(t, want, p, rule)
			return
		}
		x := mustNew(t, p, rule)
		x.rotate(t, usual, now, 0)
		x.batch(t, []string{pays(first), pays(second), raw, pays(first)}, now)
		for _, at := range []int64{now, later, near(later, leeway), near(later, 1), high} {
			x.take(t, pays(second), at)
			x.batch(t, []string{raw, pays(first), signs(headOf("k")) + "." + raw}, at)
		}
	})
}
