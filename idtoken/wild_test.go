package idtoken_test

import (
	"math/rand"
	"slices"
	"strings"
	"testing"

	"signet/api"
	"signet/idtoken"
	"signet/json"
)

var names = []string{"azp", "nonce", "at_hash", "c_hash", "auth_time"}

func wildText(r *rand.Rand) string {
	if r.Intn(3) == 0 {
		b := make([]byte, r.Intn(5))
		r.Read(b)
		return string(b)
	}
	return pick(r, append([]string{"", "c", "n", "\xff", "\xed\xa0\x80", "é", "\x00", "1", "1.0", "-0", "77QmUPtjPfzWtF2AnpK9RQ"}, names...))
}

func wildNodes(r *rand.Rand) []api.Node {
	var v []api.Node
	for range r.Intn(7) {
		v = append(v, api.Node{Kind: api.Kind(r.Intn(9)), Key: wildText(r), Text: wildText(r), Whole: r.Intn(2) == 0, Int: drawnTime(r), Kids: pick(r, []int{0, 0, 1, 2, 3, -1, -9, 1 << 40, high, low})})
	}
	if len(v) > 0 && r.Intn(2) == 0 {
		v[0].Kind, v[0].Kids = api.Object, len(v)-1
	}
	return v
}

func wildWant(r *rand.Rand) api.Want {
	flip := func() bool { return r.Intn(2) == 0 }
	w := api.Want{Client: wildText(r), Nonce: wildText(r), HasNonce: flip(), Access: wildText(r), HasAccess: flip(), Code: wildText(r), HasCode: flip(), MaxAge: drawnTime(r), HasAge: flip(), Leeway: drawnTime(r)}
	if flip() {
		w.Leeway, w.MaxAge = w.Leeway&511, w.MaxAge&(1<<31-1)
	}
	return w
}

// wildClaims: those of a plan, with nodes and texts changed; most often their value is not well shaped.
func wildClaims(t testing.TB, r *rand.Rand) (api.Claims, api.Alg, api.Want, int64) {
	c, a, w, now := drawnPlan(r).laid(t, r)
	switch more := wildNodes(r); {
	case len(more) > 0 && r.Intn(2) == 0:
		c.Value[r.Intn(len(c.Value))] = more[0]
	case r.Intn(2) == 0:
		c.Value = more
	case r.Intn(2) == 0:
		c.Value = c.Value[:r.Intn(len(c.Value))]
	}
	if r.Intn(2) == 0 {
		w = wildWant(r)
		c.Aud = append(c.Aud, wildText(r), w.Client)
	}
	return c, a, w, now
}

// P1 and P3: claims and wants of any kind; of a value that is well shaped, the chapter's words too.
func TestWild(t *testing.T) {
	t.Parallel()
	r := rand.New(rand.NewSource(9))
	all := append(codes[:], api.OK)
	shaped := 0
	for range 15000 {
		c, a, w, now := wildClaims(t, r)
		if json.Shaped(c.Value) {
			shaped++
			holdCheck(t, c, a, w, now)
		}
		first, second := idtoken.Check(c, a, w, now), idtoken.Check(c, a, w, now)
		if first != second || !slices.Contains(all, first) {
			t.Fatalf("P3: Check(%s, %d, %s, %d) = %d, and then %d", short(c), int(a), short(w), now, int(first), int(second))
		}
	}
	if shaped < 1000 {
		t.Fatalf("only %d values were well shaped", shaped)
	}
}

// A value that is not well shaped, in each of the ways, brings no call to an end that is none.
func TestNotShaped(t *testing.T) {
	t.Parallel()
	all := api.Want{Client: "c", HasNonce: true, HasAccess: true, HasCode: true, HasAge: true}
	for _, v := range [][]api.Node{
		nil, {}, {{}}, {{Kind: 99}}, {{Kind: -1, Kids: 3}}, {{Kind: api.Object, Kids: 1}}, {{Kind: api.Object, Kids: high}}, {{Kind: api.Object, Kids: -1}},
		{{Kind: api.Object, Kids: 2}, {Kind: api.String, Key: "nonce"}}, {{Kind: api.Object}, {Kind: api.String, Key: "nonce"}},
		{{Kind: api.Object, Kids: 1}, {Kind: api.List, Key: "azp", Kids: 9}}, {{Kind: api.Object, Kids: 2}, {Kind: api.String, Key: "azp", Text: "c"}, {Kind: api.Null, Key: "azp"}},
		{{Kind: api.Object, Kids: 1}, {Kind: api.Number, Key: "auth_time", Text: "x", Whole: true, Int: 7}}, {{Kind: api.Object, Kids: 1}, {Kind: api.Null, Key: "auth_time", Whole: true}},
		slices.Repeat([]api.Node{{Kind: api.List, Kids: 1}}, 100000), slices.Repeat([]api.Node{{Kind: api.Object, Kids: 1, Key: "nonce"}}, 100000),
	} {
		for _, w := range []api.Want{{}, {Client: "c"}, all, {Client: "c", HasNonce: true}, {Client: "c", HasAccess: true}, {Client: "c", HasCode: true}, {Client: "c", HasAge: true}} {
			for _, c := range []api.Claims{{Value: v}, of(v), of(v, "c"), of(v, "c", "d")} {
				if first, second := idtoken.Check(c, api.RS256, w, 0), idtoken.Check(c, api.RS256, w, 0); first != second {
					t.Fatalf("P3: Check(%s, %s) = %d, and then %d", short(c), short(w), int(first), int(second))
				}
			}
		}
	}
}

func FuzzCalls(f *testing.F) {
	r := rand.New(rand.NewSource(10))
	for range 40 {
		p := drawnPlan(r)
		c, a, w, now := p.laid(f, r)
		payload, _ := json.Print(c.Value)
		f.Add(payload, strings.Join(c.Aud, ","), int(a), w.Client, w.Nonce, w.Access, w.Code, r.Intn(64), w.MaxAge, w.Leeway, now)
	}
	f.Fuzz(func(t *testing.T, payload, aud string, a int, client, nonce, access, exchange string, mask int, most, leeway, now int64) {
		v, code, _ := json.Parse(payload)
		if code != api.OK {
			v = []api.Node{{Kind: api.Object}}
		}
		c := of(v, strings.Split(aud, ",")...)
		if mask&16 != 0 {
			c.Aud = append(c.Aud, client)
		}
		w := api.Want{Client: client, Nonce: nonce, HasNonce: mask&1 != 0, Access: access, HasAccess: mask&2 != 0, Code: exchange, HasCode: mask&4 != 0, MaxAge: most, HasAge: mask&8 != 0, Leeway: leeway}
		holdHalf(t, api.Alg(a), access)
		holdCheck(t, c, api.Alg(a), w, now)
		w.Leeway, w.MaxAge = leeway&511, most&(1<<31-1)
		holdCheck(t, c, api.Alg(a), w, now)
		alg := algs[uint(a)%12].alg
		holdCheck(t, c, alg, w, now)
		w.HasNonce, w.HasAccess, w.HasCode = false, false, false
		c.Aud = []string{client}
		holdCheck(t, c, alg, w, now)
	})
}
