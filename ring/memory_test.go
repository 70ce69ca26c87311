package ring_test

import (
	"bytes"
	"fmt"
	"math/rand"
	"slices"
	"strings"
	"testing"
	"unsafe"

	"signet/api"
	"signet/ring"
)

// given: a text in memory that the test can change, with marked room about it.
type given struct {
	text string
	room []byte
	was  []byte
}

func lay(text string) given {
	room := []byte(strings.Repeat("<", 30) + text + strings.Repeat(">", 70))
	g := given{room: room, was: bytes.Clone(room)}
	g.text = unsafe.String(&room[30], len(text))
	return g
}

func (g given) hold(t *testing.T) {
	t.Helper()
	if !bytes.Equal(g.room, g.was) {
		t.Fatalf("P2: a call changes what is handed in, or the room about it: %.500q", g.was)
	}
}

func (g given) spoil() {
	for i := range g.room {
		g.room[i] ^= 0x55
	}
}

// P2 of Rotate: the text is not changed, and the ring does not go with it.
func TestRotateMemory(t *testing.T) {
	t.Parallel()
	for n := range 40 {
		x := newPair()
		var all []given
		for i := range 5 {
			g := lay(set(key(strings.Repeat("k", n)+fmt.Sprint(i), letters[i%2])) + strings.Repeat(" ", n*i))
			all = append(all, g)
			if code := x.ring.Rotate(g.text, int64(i), 100); code != api.OK {
				t.Fatal(int(code))
			}
			x.slow.rotate(strings.Clone(g.text), int64(i), 100)
			for _, text := range []string{g.text[1:], g.text[:n], g.text[n+1:]} {
				x.ring.Rotate(text, int64(i), 100)
				g.hold(t)
			}
			x.ring.Rotate(g.text, low, 0)
			g.hold(t)
		}
		for _, g := range all {
			g.spoil()
		}
		for i := range 5 {
			x.mustVerify(t, api.OK, int64(i+1), token(strings.Repeat("k", n)+fmt.Sprint(i), letters[i%2]), 7)
		}
	}
}

// spoilClaims: each list to the end of its room.
func spoilClaims(c api.Claims) {
	for i := range c.Value[:cap(c.Value)] {
		c.Value[:cap(c.Value)][i] = api.Node{Kind: 77, Key: "spoilt", Text: "spoilt", Kids: -3}
	}
	for i := range c.Aud[:cap(c.Aud)] {
		c.Aud[:cap(c.Aud)][i] = "spoilt"
	}
}

// P2 of Verify: token and policy are not changed, what is answered does not go with them, nor with what was answered ahead.
func TestVerifyMemory(t *testing.T) {
	t.Parallel()
	for n := range 12 {
		x := newPair()
		x.mustRotate(t, api.OK, set(key("a", "x")), 0, 0)
		pay := `{"sub":"me","aud":["me"` + strings.Repeat(`,"other"`, n) + `],"jti":"\u0061"}`
		g, kid, name := lay(signed(headOf("a"), pay, "x")), lay("me"), lay("HS256")
		lists := []string{"mark", "HS384", name.text, "mark", "sub", "jti", "mark"}
		p := api.Policy{Algs: lists[1:3], Need: lists[4:6], HasAud: true, Aud: kid.text}
		was := slices.Clone(lists)
		var answers []api.Claims
		for now := range int64(4) {
			c, _, code := x.verify(t, g.text, p, now)
			if code != api.OK {
				t.Fatal(int(code))
			}
			answers = append(answers, c)
			x.verify(t, g.text[:len(g.text)-1], p, now)
			x.verify(t, g.text, p, now-1)
			if g.hold(t); !slices.Equal(lists, was) {
				t.Fatalf("P2: Verify changes the policy's lists: %q", lists)
			}
		}
		wanted, _, _ := x.slow.clone().verify(strings.Clone(g.text), p, 9)
		spoilClaims(answers[0])
		if !same(answers[1], wanted) {
			t.Fatal("P2: two answers share memory")
		}
		g.spoil()
		kid.spoil()
		name.spoil()
		clear(lists)
		if !same(answers[1], wanted) || !same(answers[3], wanted) {
			t.Fatal("P2: an answer goes with what was handed in")
		}
		spoilClaims(answers[3])
		x.mustVerifyBy(t, api.OK, 1, token("a", "x"), asked, 9)
	}
}

// P2 of Versions: a list of its own each time, its spare room too.
func TestVersionsMemory(t *testing.T) {
	t.Parallel()
	x := newPair()
	for n := range int64(9) {
		first, second := x.ring.Versions(0), x.ring.Versions(0)
		room := slices.Clone(second[:cap(second)])
		for i := range first[:cap(first)] {
			first[:cap(first)][i] = -7
		}
		x.hold(t)
		if !slices.Equal(second[:cap(second)], room) {
			t.Fatal("P2: two answers share memory")
		}
		x.rotate(t, set(), n, 100)
		x.drop(t, n/2)
		x.verify(t, "", asked, n)
		if !slices.Equal(second[:cap(second)], room) {
			t.Fatal("P2: an answer is written to behind its call")
		}
	}
}

// P3: two rings know nothing of each other.
func TestApart(t *testing.T) {
	t.Parallel()
	x, y := newPair(), newPair()
	x.mustRotate(t, api.OK, set(key("a", "x")), 100, 0)
	y.mustTell(t, 100)
	y.mustDrop(t, api.ErrVersion, 1)
	y.mustVerify(t, api.ErrNoKey, 0, token("a", "x"), 5)
	y.mustRotate(t, api.OK, set(key("a", "y")), 5, 0)
	y.mustTell(t, 5, 1)
	x.mustVerify(t, api.OK, 1, token("a", "x"), 100)
	x.mustDrop(t, api.OK, 1)
	y.mustVerify(t, api.OK, 1, token("a", "y"), 5)
	x.mustTell(t, 100)
}

// P3: the same run is answered the same each time, whatever other rings are asked meanwhile.
func TestSameAgain(t *testing.T) {
	t.Parallel()
	var first []told
	other := ring.New()
	for turn := range 4 {
		r := rand.New(rand.NewSource(5))
		x := &run{pair: newPair()}
		for range 300 {
			x.tell(t, drawnCall(r, x, clockOf(x, 0)))
			other.Rotate(set(key("a", "z")), int64(turn), 5)
			other.Verify(token("a", "x"), asked, int64(turn))
		}
		if turn == 0 {
			first = x.log
		}
		if !slices.EqualFunc(x.log, first, func(a, b told) bool {
			return a.code == b.code && a.version == b.version && same(a.claims, b.claims)
		}) {
			t.Fatal("P3: the same run is answered another way")
		}
	}
}
