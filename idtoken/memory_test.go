package idtoken_test

import (
	"math/rand"
	"slices"
	"strings"
	"sync"
	"testing"
	"unsafe"

	"signet/api"
	"signet/idtoken"
	"signet/json"
)

func printed(t *testing.T, v []api.Node) string {
	t.Helper()
	text, code := json.Print(v)
	if code != api.OK {
		t.Fatalf("json.Print(%s) = %d", short(v), int(code))
	}
	return text
}

// aliased: the text in memory of its own, with spare room behind it, and that memory.
func aliased(s string) (string, []byte) {
	memory := append(make([]byte, 0, len(s)+70), s...)
	room := memory[:cap(memory)]
	for i := len(s); i < len(room); i++ {
		room[i] = 0xa5
	}
	return unsafe.String(unsafe.SliceData(memory), len(memory)), room
}

// P2 and P3 of Half: the text and the room behind it stay as they are, and the answer stays when they are spoilt.
func TestHalfMemory(t *testing.T) {
	t.Parallel()
	for _, x := range algs {
		for n := range 200 {
			was := strings.Repeat("t", n)
			given, room := aliased(was)
			want := half(t, x.alg, was)
			first, _ := idtoken.Half(x.alg, given)
			second, _ := idtoken.Half(x.alg, given)
			if given != was || strings.Trim(string(room[n:]), "\xa5") != "" {
				t.Fatalf("P2: Half(%s, %q) changes the text, or the room behind it", x.name, was)
			}
			for i := range room {
				room[i] = '!'
			}
			if first != want || second != want {
				t.Fatalf("P2: Half(%s, %q): the answer goes with the text", x.name, was)
			}
			if len(first) > 0 && unsafe.StringData(first) == unsafe.StringData(second) {
				t.Fatalf("P2: Half(%s, %q): two answers share memory", x.name, was)
			}
		}
	}
}

// laid: the claims with lists that are pieces of marked memory, of which each has all behind it as its spare room.
func laid(c api.Claims) (nodes []api.Node, texts []string, out api.Claims) {
	mark := api.Node{Kind: api.String, Key: "azp", Text: "mark"}
	nodes = slices.Concat([]api.Node{mark}, c.Value, []api.Node{mark, {Kind: api.Number, Key: "auth_time", Text: "1", Whole: true, Int: 1}, {Kind: api.String, Key: "nonce"}})
	texts = slices.Concat([]string{"mark"}, c.Aud, []string{"c", "", "mark"})
	out = c
	out.Value, out.Aud = nodes[1:1+len(c.Value)], texts[1:1+len(c.Aud)]
	return nodes, texts, out
}

// P2 and P3 of Check: over memory that is marked, and of which all is looked at behind the calls.
func TestCheckMemory(t *testing.T) {
	t.Parallel()
	r := rand.New(rand.NewSource(8))
	for range 5000 {
		p := drawnPlan(r)
		c, a, w, now := p.laid(t, r)
		nodes, texts, given := laid(c)
		nodesWere, textsWere := slices.Clone(nodes), slices.Clone(texts)
		first := idtoken.Check(given, a, w, now)
		other := idtoken.Check(given, a, w, drawnTime(r))
		second := idtoken.Check(given, a, w, now)
		if want := p.code(); first != want || second != want {
			t.Fatalf("P3: Check(%s, %d, %s, %d) hangs on spare room, or on what was asked ahead (%d): %d, %d, want %d", short(c), int(a), short(w), now, int(other), int(first), int(second), int(want))
		}
		if !slices.Equal(nodes, nodesWere) || !slices.Equal(texts, textsWere) {
			t.Fatalf("P2: Check changes %s, or the room behind its lists", short(c))
		}
	}
}

// What lies in memory that is changed between the calls is judged as it is at each call: nothing is kept.
func TestChangedBetween(t *testing.T) {
	t.Parallel()
	client, clientRoom := aliased("client")
	nonce, nonceRoom := aliased("nonce")
	token, tokenRoom := aliased(access)
	c := fullFor(t, `["client"]`, `"nonce":"nonce"`, `"at_hash":"77QmUPtjPfzWtF2AnpK9RQ"`, `"auth_time":7`)
	w := api.Want{Client: client, HasNonce: true, Nonce: nonce, HasAccess: true, Access: token, HasAge: true, MaxAge: 3}
	for range 3 {
		mustCheck(t, api.OK, c, api.RS256, w, 10)
		mustCheck(t, api.ErrAge, c, api.RS256, w, 11)
		tokenRoom[0]++
		mustCheck(t, api.ErrHash, c, api.RS256, w, 11)
		nonceRoom[0]++
		mustCheck(t, api.ErrNonce, c, api.RS256, w, 11)
		clientRoom[0]++
		mustCheck(t, api.ErrAud, c, api.RS256, w, 11)
		c.Aud = append(c.Aud, strings.Clone(client))
		mustCheck(t, api.ErrAzp, c, api.RS256, w, 11)
		c.Aud = c.Aud[:1]
		clientRoom[0]--
		nonceRoom[0]--
		tokenRoom[0]--
		at := json.Member(c.Value, 0, "nonce")
		c.Value[at].Key = "once"
		mustCheck(t, api.ErrNonce, c, api.RS256, w, 10)
		c.Value[at].Key = "nonce"
	}
}

// P3: calls at the same time know nothing of each other, though they are given the same lists.
func TestAtOnce(t *testing.T) {
	t.Parallel()
	shared := fullFor(t, `["c","d"]`, `"azp":"c"`, `"nonce":"n"`, `"auth_time":7`)
	var work sync.WaitGroup
	for worker := range 8 {
		work.Go(func() {
			r := rand.New(rand.NewSource(int64(worker)))
			for range 400 {
				p := drawnPlan(r)
				c, a, w, now := p.laid(t, r)
				if got := idtoken.Check(c, a, w, now); got != p.code() {
					t.Errorf("P3: worker %d: Check(%s, %d, %s, %d) = %d, want %d", worker, short(c), int(a), short(w), now, int(got), int(p.code()))
				}
				w = api.Want{Client: "c", HasNonce: true, Nonce: "n", HasAge: true, MaxAge: int64(worker)}
				now = int64(r.Intn(20))
				if got := idtoken.Check(shared, api.RS256, w, now); got != wantCheck(shared, api.RS256, w, now) {
					t.Errorf("P3: worker %d: Check = %d at %d", worker, int(got), now)
				}
				x := pick(r, algs)
				if got, _ := idtoken.Half(x.alg, access); got != half(t, x.alg, access) {
					t.Errorf("P3: worker %d: Half(%s) = %q", worker, x.name, got)
				}
			}
		})
	}
	work.Wait()
}
