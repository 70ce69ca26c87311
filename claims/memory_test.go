package claims_test

import (
	"fmt"
	"math/rand"
	"slices"
	"strings"
	"sync"
	"testing"
	"unsafe"

	"signet/api"
	"signet/claims"
)

// alias: a text that lies in memory which the test can change.
func alias(memory []byte) string { return unsafe.String(unsafe.SliceData(memory), len(memory)) }

// aliased: the text in memory of its own, and that memory.
func aliased(s string) (string, []byte) {
	memory := append(make([]byte, 0, len(s)+40), s...)
	return alias(memory), memory
}

func spoilBytes(b []byte) {
	b = b[:cap(b)]
	for i := range b {
		b[i] ^= 0xff
	}
}

func spoilNodes(v []api.Node) {
	for i := range v[:cap(v)] {
		v[:cap(v)][i] = api.Node{Kind: 77, Key: "spoilt", Text: "spoilt", Int: 7, Kids: -3}
	}
}

func spoilTexts(l []string) {
	for i := range l[:cap(l)] {
		l[:cap(l)][i] = "spoilt"
	}
}

// room: the claims with the spare room of their lists.
func room(c api.Claims) string {
	return fmt.Sprintf("%+v %q %+v", c.Value[:cap(c.Value)], c.Aud[:cap(c.Aud)], fields(c))
}

// somePayloads: of lists of all lengths, and such as are refused.
func somePayloads() []string {
	r := rand.New(rand.NewSource(8))
	out := []string{"", "{}", "[]", `{"aud":[]}`, `{"aud":"a"}`, `{"aud":["a"]}`, `{"aud":[1]}`, `{"exp":1.0}`, `{"exp":12,"nbf":-7,"iat":3}`, `{"a`}
	for n := range 60 {
		c := drawnClaims(r)
		c.HasAud, c.Aud = true, nil
		for i := range n {
			c.Aud = append(c.Aud, fmt.Sprint("a", i))
		}
		out = append(out, text(r, append(membersOf(r, c), others(r)...)...))
	}
	return out
}

// P2 and P3 of Parse: its lists and texts share no memory with the payload, with each other, or with another call's.
func TestParseMemory(t *testing.T) {
	t.Parallel()
	for _, payload := range somePayloads() {
		want, wantCode := wantParse(payload)
		given, memory := aliased(payload)
		first, code := claims.Parse(given)
		second, again := claims.Parse(given)
		if code != wantCode || again != wantCode || !same(first, want) || !same(second, want) {
			t.Fatalf("P3: Parse(%q) hangs on what was asked ahead", payload)
		}
		if string(memory) != payload {
			t.Fatalf("P2: Parse(%q) changes the payload", payload)
		}
		was := room(second)
		spoilNodes(first.Value[len(first.Value):])
		spoilTexts(first.Aud[len(first.Aud):])
		if !same(first, want) {
			t.Fatalf("P2: Parse(%q): what is laid behind one list shows in another", payload)
		}
		spoilNodes(first.Value)
		if !slices.Equal(first.Aud, want.Aud) {
			t.Fatalf("P2: Parse(%q): two lists of one answer share memory", payload)
		}
		spoilTexts(first.Aud)
		spoilBytes(memory)
		if room(second) != was || !same(second, want) {
			t.Fatalf("P2: Parse(%q): an answer goes with the payload, or with another answer", payload)
		}
		if third, _ := claims.Parse(payload); !same(third, want) {
			t.Fatalf("P3: Parse(%q): a changed answer shows in a later one", payload)
		}
	}
}

// laid: the claims and the policy with lists that are pieces of marked memory; each has all behind it as its spare room.
func laid(c api.Claims, p api.Policy) (nodes []api.Node, texts []string, c2 api.Claims, p2 api.Policy) {
	mark := api.Node{Kind: api.Null, Key: "exp"}
	nodes = slices.Concat([]api.Node{mark}, c.Value, []api.Node{mark, mark, mark})
	texts = slices.Concat([]string{"mark"}, c.Aud, []string{"a", "exp", ""}, p.Need, []string{"mark", "exp", "iss"}, p.Algs, []string{"mark", "mark"})
	c2, p2 = c, p
	c2.Value = nodes[1 : 1+len(c.Value)]
	at := 1
	c2.Aud = texts[at : at+len(c.Aud)]
	at += len(c.Aud) + 3
	p2.Need = texts[at : at+len(p.Need)]
	at += len(p.Need) + 3
	p2.Algs = texts[at : at+len(p.Algs)]
	return nodes, texts, c2, p2
}

// P2 and P3 of Check, Clock and Open: over memory that is marked, and of which all is looked at behind the calls.
func TestGivenMemory(t *testing.T) {
	t.Parallel()
	r := rand.New(rand.NewSource(9))
	for _, payload := range somePayloads() {
		c, code := wantParse(payload)
		if code != api.OK {
			continue
		}
		for range 20 {
			p := api.Policy{Algs: []string{"HS256"}, HasIss: r.Intn(2) == 0, Iss: pick(r, []string{c.Iss, "i"}), HasAud: r.Intn(2) == 0, Aud: pick(r, append([]string{"", "a"}, c.Aud...))}
			for range r.Intn(4) {
				p.Need = append(p.Need, pick(r, append([]string{"aud"}, registered...)))
			}
			nodes, texts, laidClaims, laidPolicy := laid(c, p)
			nodesWere, textsWere := slices.Clone(nodes), slices.Clone(texts)
			first, second := claims.Check(laidClaims, laidPolicy), claims.Check(laidClaims, laidPolicy)
			if want := wantCheck(c, p); first != want || second != want {
				t.Fatalf("P3: Check(%s, %s) hangs on spare room, or on what was asked ahead: %d, %d, want %d", short(c), short(p), int(first), int(second), int(want))
			}
			leeway := int64(r.Intn(603)) - 1
			holdOpen(t, laidClaims, leeway)
			holdClock(t, laidClaims, leeway, drawnTime(r))
			if !slices.Equal(nodes, nodesWere) || !slices.Equal(texts, textsWere) {
				t.Fatalf("P2: a call changes %s, or %s, or the room behind them", short(c), short(p))
			}
		}
	}
}

// One payload's claims do not show in the next one's.
func TestNothingKept(t *testing.T) {
	t.Parallel()
	for range 3 {
		mustSay(t, `{"iss":"a","sub":"b","aud":["c","d"],"jti":"e","exp":1,"nbf":2,"iat":3}`, api.Claims{Iss: "a", HasIss: true, Sub: "b", HasSub: true, Aud: []string{"c", "d"}, HasAud: true, Jti: "e", HasJti: true, Exp: at(1), Nbf: at(2), Iat: at(3)})
		mustSay(t, `{}`, api.Claims{})
		mustParse(t, api.ErrClaim, `{"iss":"a","sub":1}`)
		mustSay(t, `{"aud":[]}`, api.Claims{HasAud: true})
		mustCheck(t, api.ErrMissing, parsed(t, `{}`), api.Policy{Need: []string{"iss"}})
	}
}

// Claims that lie in memory which is changed between the calls are judged as they are at each call.
func TestChangedBetween(t *testing.T) {
	t.Parallel()
	iss, memory := aliased("issuer")
	c := parsed(t, `{"aud":["x","y"]}`)
	c.Iss, c.HasIss = iss, true
	p := api.Policy{HasIss: true, Iss: "issuer", HasAud: true, Aud: "y", Need: []string{"aud"}}
	mustCheck(t, api.OK, c, p)
	memory[0] = 'I'
	mustCheck(t, api.ErrIss, c, p)
	p.Iss = strings.Clone(c.Iss)
	c.Aud[1] = "z"
	mustCheck(t, api.ErrAud, c, p)
	c.Value[1].Key = "bud"
	mustCheck(t, api.ErrMissing, c, p)
}

// P3: calls at the same time know nothing of each other.
func TestAtOnce(t *testing.T) {
	t.Parallel()
	payloads := somePayloads()
	shared := parsed(t, `{"iss":"i","aud":["a","b"],"exp":10,"nbf":0}`)
	need := []string{"iss", "exp"}
	var work sync.WaitGroup
	for worker := range 8 {
		work.Go(func() {
			for i := range payloads {
				payload := payloads[(i+7*worker)%len(payloads)]
				want, wantCode := wantParse(payload)
				c, code := claims.Parse(payload)
				if code != wantCode || !same(c, want) {
					t.Errorf("P3: worker %d: Parse(%q) = %s, %d", worker, payload, short(c), int(code))
				}
				p := api.Policy{HasIss: worker%2 == 0, Iss: "i", HasAud: true, Aud: "b", Need: need}
				if code := claims.Check(shared, p); code != api.OK {
					t.Errorf("P3: worker %d: Check = %d", worker, int(code))
				}
				if w, code := claims.Open(shared, int64(worker)); code != api.OK || w != (api.Window{From: -int64(worker), To: 9 + int64(worker)}) {
					t.Errorf("P3: worker %d: Open = %+v, %d", worker, w, int(code))
				}
				if code := claims.Clock(shared, int64(worker), 9+int64(i%3*worker)); code != wantClock(shared, int64(worker), 9+int64(i%3*worker)) {
					t.Errorf("P3: worker %d: Clock = %d", worker, int(code))
				}
				spoilNodes(c.Value)
				spoilTexts(c.Aud)
			}
		})
	}
	work.Wait()
}
