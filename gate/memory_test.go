package gate_test

import (
	"bytes"
	"math/rand"
	"slices"
	"strings"
	"testing"
	"unsafe"

	"signet/api"
	"signet/gate"
)

// given: a text in memory that the test can change, with marked room about it.
type given struct {
	text string
	room []byte
	was  []byte
}

func lay(text string) given {
	room := []byte(strings.Repeat("<", 30) + text + strings.Repeat(">", 70))
	g := given{room: room, was: bytes.Clone(room)}
	g.text = unsafe.String(&room[30], len(text))
	return g
}

func (g given) hold(t *testing.T) {
	t.Helper()
	if !bytes.Equal(g.room, g.was) {
		t.Fatalf("P2: a call changes what is handed in, or the room about it: %.500q", g.was)
	}
}

func (g given) spoil() {
	for i := range g.room {
		g.room[i] ^= 0x55
	}
}

// spoilClaims: each list to the end of its room.
func spoilClaims(c api.Claims) {
	for i := range c.Value[:cap(c.Value)] {
		c.Value[:cap(c.Value)][i] = api.Node{Kind: 77, Key: "spoilt", Text: "spoilt", Kids: -3}
	}
	for i := range c.Aud[:cap(c.Aud)] {
		c.Aud[:cap(c.Aud)][i] = "spoilt"
	}
}

// P2 and 26.1: the policy and the rule are not changed, and the gate does not go with them.
func TestNewMemory(t *testing.T) {
	t.Parallel()
	var laid []given
	put := func(text string) string {
		laid = append(laid, lay(text))
		return laid[len(laid)-1].text
	}
	lists := []string{"mark", put("HS384"), put("HS256"), "mark", put("sub"), put("jti"), "mark"}
	was := slices.Clone(lists)
	p := api.Policy{Algs: lists[1:3], Need: lists[4:6], HasIss: true, Iss: put("joe"), HasAud: true, Aud: put("me"), HasTyp: true, Typ: put("at"), Leeway: 3}
	rule := put(`sub = "s" and has deep.er and not n = 12 and n.0 != "\u0061"`)
	g, code := gate.New(p, rule)
	if code != api.OK || !slices.Equal(lists, was) {
		t.Fatalf("26.1: %d, %q", int(code), lists)
	}
	for _, x := range laid {
		x.hold(t)
		x.spoil()
	}
	clear(lists)
	g.Rotate(usual, 0, 0)
	const head, rest = `{"alg":"HS256","kid":"k","typ":"at"}`, `,"sub":"s","aud":"me","n":["b"],"deep":{"er":0}`
	for i, c := range []struct {
		pay  string
		want api.Errno
	}{
		{claim(by("joe"), "a", 9, rest), api.OK}, {claim(by("jim"), "b", 9, rest), api.ErrIss}, {claim(by("joe"), "b", 9, strings.Replace(rest, "me", "us", 1)), api.ErrAud},
		{claim(by("joe"), "b", 9, strings.Replace(rest, "sub", "sup", 1)), api.ErrMissing}, {claim(by("joe"), "b", 9, strings.Replace(rest, `"b"`, `"a"`, 1)), api.ErrDenied},
		{claim(by("joe"), "b", 9, strings.Replace(rest, "er", "ep", 1)), api.ErrDenied},
	} {
		if _, code := g.Take(signed(head, c.pay, "x"), 5); code != c.want {
			t.Errorf("P2: the gate goes with what was handed in: row %d: %d, want %d", i, int(code), int(c.want))
		}
	}
}

// P2 of Rotate: the text is not changed, and the gate does not go with it.
func TestRotateMemory(t *testing.T) {
	t.Parallel()
	g, _ := gate.New(asked, "")
	keys := lay(usual)
	for _, now := range []int64{0, 0, -1} {
		g.Rotate(keys.text, now, 0)
		g.Rotate(keys.text[1:], now, 0)
		keys.hold(t)
	}
	keys.spoil()
	if _, code := g.Take(ticket(by(), "a", 9), 5); code != api.OK {
		t.Errorf("P2: the gate goes with what was handed in: %d", int(code))
	}
}

// P2 of Take: the token is not changed; neither the book nor what is answered goes with it, nor they with each other.
func TestTakeMemory(t *testing.T) {
	t.Parallel()
	p := asked
	p.HasAud, p.Aud = true, "me"
	build := func() *gate.Gate {
		g, _ := gate.New(p, "has aud")
		g.Rotate(usual, 0, 0)
		return g
	}
	for n := range 12 {
		pay := claim(by("i"), "jti"+strings.Repeat("i", n), 900, `,"aud":["me"`, strings.Repeat(`,"other"`, n), `]`)
		wanted, code := build().Take(pays(pay), 5)
		if code != api.OK {
			t.Fatal(int(code))
		}
		g, token := build(), lay(pays(pay))
		first, _ := g.Take(token.text, 5)
		second, _ := build().Take(token.text, 5)
		g.Take(token.text, 5)
		g.Take(token.text, 4)
		g.Take(token.text[1:], 5)
		token.hold(t)
		token.spoil()
		if !same(first, wanted) {
			t.Fatalf("P2: an answer goes with what was handed in: %s, want %s", short(first), short(wanted))
		}
		spoilClaims(first)
		if !same(second, wanted) {
			t.Fatal("P2: two answers share memory")
		}
		if c, code := g.Take(pays(pay), 5); code != api.ErrReplay || !zero(c) {
			t.Fatalf("P2: the book goes with what was handed in or out: %d", int(code))
		}
		if _, code := g.Take(ticket(by("i"), "new", 900, `,"aud":"me"`), 5); code != api.OK {
			t.Fatalf("P2: the gate goes with what was handed in or out: %d", int(code))
		}
	}
}

// P2 of Batch: neither list nor tokens are changed; verdicts share nothing with them, nor with one another.
func TestBatchMemory(t *testing.T) {
	t.Parallel()
	for _, n := range []int{1, 2, 3, 63, 64, 65, 130} {
		p := asked
		p.HasAud, p.Aud = true, "me"
		g, _ := gate.New(p, "")
		g.Rotate(usual, 0, 0)
		var laid []given
		lists, texts := []string{"mark"}, []string{}
		for i := range n {
			laid = append(laid, lay(ticket(by(), strings.Repeat("j", i+1), 900, `,"aud":["me","us"]`)))
			lists, texts = append(lists, laid[i].text), append(texts, strings.Clone(laid[i].text))
		}
		lists = append(lists, "mark", "mark")
		was := slices.Clone(lists)
		l := g.Batch(lists[1:n+1:n+2], 5)
		if !slices.Equal(lists, was) {
			t.Fatal("P2: Batch changes the list that is handed in, or the room behind it")
		}
		again := g.Batch(lists[1:n+1], 5)
		for _, x := range laid {
			x.hold(t)
			x.spoil()
		}
		clear(lists)
		holdApart(t, l, again)
		for i, token := range texts {
			if _, code := g.Take(token, 5); code != api.ErrReplay {
				t.Fatalf("P2: the book goes with what was handed in or out: token %d of %d: %d", i, n, int(code))
			}
		}
	}
}

// holdApart spoils one verdict of a list, to the end of all room, and holds the others; then the whole list.
func holdApart(t *testing.T, l, again []api.Verdict) {
	t.Helper()
	for i := range l {
		if l[i].Code != api.OK || len(l[i].Claims.Jti) != i+1 || !slices.Equal(l[i].Claims.Aud, []string{"me", "us"}) || len(l[i].Claims.Value) != 6 || l[i].Claims.Value[1].Text != l[i].Claims.Jti {
			t.Fatalf("P2: verdict %d goes with another, or with what was handed in: %s", i, short(l[i]))
		}
		spoilClaims(l[i].Claims)
	}
	for i := range l[:cap(l)] {
		l[:cap(l)][i] = api.Verdict{Code: -7}
	}
	for i, v := range again {
		if v.Code != api.ErrReplay || !zero(v.Claims) {
			t.Fatalf("P2: verdict %d goes with another list: %s", i, short(v))
		}
	}
}

// P3: two gates know nothing of each other.
func TestApart(t *testing.T) {
	t.Parallel()
	x, y := open(t, 0), open(t, 0)
	token := ticket(by(), "a", 900)
	x.mustTake(t, api.OK, token, 100)
	y.mustLen(t, 0)
	y.mustTake(t, api.OK, token, 50)
	y.mustRotate(t, api.OK, set(), 60, 0)
	x.mustBatch(t, []string{token, ticket(by(), "b", 900)}, 100, api.ErrReplay, api.OK)
	y.mustLen(t, 1)
	y.mustTake(t, api.ErrNoKey, token, 60)
}

// P3: the same run is answered the same each time, whatever other gates are asked meanwhile.
func TestSameAgain(t *testing.T) {
	t.Parallel()
	var first []api.Verdict
	other := open(t, 0)
	for turn := range int64(4) {
		r := rand.New(rand.NewSource(7))
		x := open(t, 3)
		var all []api.Verdict
		for now := range int64(30) {
			all = append(all, x.batch(t, mixed(r, 30), 90+now)...)
			other.gate.Batch(mixed(r, 3), turn)
		}
		if turn == 0 {
			first = all
		}
		if !slices.EqualFunc(all, first, sameVerdicts) {
			t.Fatal("P3: the same run is answered another way")
		}
	}
}
