package serial_test

import (
	"fmt"
	"math/rand"
	"slices"
	"strings"
	"sync"
	"testing"
	"unsafe"

	"signet/api"
	"signet/serial"
)

// alias: a text that lies in memory which the test can change.
func alias(memory []byte) string { return unsafe.String(unsafe.SliceData(memory), len(memory)) }

// given: texts, tokens and a policy in memory that the test can change: the texts one behind the other, the lists as pieces of one list, with marks between and all behind them as their spare room.
type given struct {
	text, keys string
	tokens     []string
	policy     api.Policy
	bytes      []byte
	texts      []string
}

func lay(text, keys string, tokens []string, p api.Policy) *given {
	g := &given{policy: p, bytes: make([]byte, 0, len(text)+len(keys)+len(strings.Join(tokens, ""))+4096)}
	put := func(s string) string {
		from := len(g.bytes)
		g.bytes = append(append(g.bytes, s...), "marked"...)
		return alias(g.bytes[from : from+len(s)])
	}
	g.text, g.keys = put(text), put(keys)
	g.policy.Iss, g.policy.Aud, g.policy.Typ = put(p.Iss), put(p.Aud), put(p.Typ)
	g.texts = []string{"mark"}
	list := func(l []string) [2]int {
		from := len(g.texts)
		for _, s := range l {
			g.texts = append(g.texts, put(s))
		}
		g.texts = append(g.texts, "a.p.s", "none", "\xff")
		return [2]int{from, from + len(l)}
	}
	places := [3][2]int{list(tokens), list(p.Algs), list(p.Need)}
	g.tokens = g.texts[places[0][0]:places[0][1]]
	g.policy.Algs = g.texts[places[1][0]:places[1][1]]
	g.policy.Need = g.texts[places[2][0]:places[2][1]]
	return g
}

// now: all that is handed in, as it is.
func (g *given) now() string { return fmt.Sprintf("%q %q", g.bytes[:cap(g.bytes)], g.texts) }

func (g *given) spoil() {
	for i := range g.texts {
		g.texts[i] = "spoilt"
	}
	for i := range g.bytes[:cap(g.bytes)] {
		g.bytes[:cap(g.bytes)][i] ^= 0xff
	}
}

func spoilNodes(v []api.Node) {
	for i := range v[:cap(v)] {
		v[:cap(v)][i] = api.Node{Kind: 77, Key: "spoilt", Text: "spoilt", Int: 7, Kids: -3}
	}
}

func spoilTexts(l []string) {
	for i := range l[:cap(l)] {
		l[:cap(l)][i] = "spoilt"
	}
}

// answer: what the three calls answer.
type answer struct {
	tokens  []string
	general string
	claims  api.Claims
	kids    []string
	codes   [3]api.Errno
}

func (g *given) ask(want int) answer {
	var a answer
	a.tokens, a.codes[0] = serial.Tokens(g.text)
	a.general, a.codes[1] = serial.General(g.tokens)
	a.claims, a.kids, a.codes[2] = serial.Verify(g.text, g.keys, g.policy, 1500, want)
	return a
}

// told: an answer, word by word, in memory of its own.
func (a answer) told() string {
	return fmt.Sprintf("%q %q %+v %q %q %q %v", a.tokens, a.general, fields(a.claims), fmt.Sprintf("%+v", a.claims.Value), a.claims.Aud, a.kids, a.codes)
}

// room: with the spare room of its lists.
func (a answer) room() string {
	return a.told() + fmt.Sprintf("%q %q %+v %q", a.tokens[:cap(a.tokens)], a.kids[:cap(a.kids)], a.claims.Value[:cap(a.claims.Value)], a.claims.Aud[:cap(a.claims.Aud)])
}

// laid: forms with one to sixteen signatures of which all, some or none hold, and texts that are refused.
func laid() []*given {
	right, wrong, keys := bench()
	var l []*given
	for n := 1; n <= 16; n++ {
		var tokens []string
		for i := range n {
			h := right[i%len(right)]
			if i%4 == 3 {
				h = wrong[i%len(wrong)]
			}
			tokens = append(tokens, h.token(body))
		}
		r := rand.New(rand.NewSource(int64(n)))
		l = append(l, lay(generalText(tokens...), keys, tokens, asked()), lay(respelled(r, grown(generalText(tokens...))), keys, tokens, asked()))
	}
	one := []string{right[0].token(body)}
	l = append(l, lay(flattened(one[0]), keys, one, asked()), lay(flattened(one[0]), "", nil, asked()), lay("{}", keys, []string{"a.b"}, asked()), lay("", "", []string{"a.p.s", "b.q.t"}, api.Policy{Leeway: -1}))
	l = append(l, lay(generalText(wrong[0].token(body)), keys, []string{".."}, asked()), lay(flattened(".."), keys, []string{"..", "\".\n"}, asked()))
	return l
}

// P2 and P3: nothing that is handed in is changed, and no answer shares memory with it, with itself, or with another answer.
func TestMemory(t *testing.T) {
	t.Parallel()
	for _, g := range laid() {
		for _, want := range []int{1, 4, 16} {
			was := g.now()
			first, second := g.ask(want), g.ask(want)
			wanted := first.told()
			if second.told() != wanted {
				t.Fatalf("P3: the same is answered in two ways: %s, %s", wanted, second.told())
			}
			if g.now() != was {
				t.Fatalf("P2: a call changes what is handed in, or the room behind it: %.900q", g.text)
			}
			behind := second.room()
			spoilTexts(first.tokens[len(first.tokens):])
			spoilTexts(first.kids[len(first.kids):])
			spoilTexts(first.claims.Aud[len(first.claims.Aud):])
			spoilNodes(first.claims.Value[len(first.claims.Value):])
			if first.told() != wanted {
				t.Fatalf("P2: %.900q: what is laid behind one list shows in another", g.text)
			}
			spoilTexts(first.kids)
			if fmt.Sprint(first.claims.Aud, first.tokens, first.claims.Value) != fmt.Sprint(second.claims.Aud, second.tokens, second.claims.Value) {
				t.Fatalf("P2: %.900q: the kids share memory with another list", g.text)
			}
			spoilTexts(first.claims.Aud)
			spoilNodes(first.claims.Value)
			spoilTexts(first.tokens)
			if g.now() != was || second.room() != behind {
				t.Fatalf("P2: %.900q: an answer shares memory with what is handed in, or with another one", g.text)
			}
		}
		last := g.ask(1)
		wanted := last.told()
		g.spoil()
		if last.told() != wanted {
			t.Fatalf("P2: an answer goes with what was handed in: %s, and now %s", wanted, last.told())
		}
	}
}

// Tokens that are pieces of one text, and a text that is its own key set.
func TestOneMemory(t *testing.T) {
	t.Parallel()
	memory := []byte("a.p.sb.p.t")
	for _, tokens := range [][]string{{alias(memory[:5]), alias(memory[5:])}, {alias(memory[:5]), alias(memory[:4]), alias(memory[:5])}, {alias(memory)}} {
		holdGeneral(t, tokens)
	}
	if string(memory) != "a.p.sb.p.t" {
		t.Fatal("P2: General changes its tokens")
	}
	a := secretHand(0, "a")
	for _, doc := range []string{flattened(a.token(body)), setOf(a)} {
		memory := []byte(doc)
		holdVerify(t, alias(memory), alias(memory), asked(), 1500, 1)
		holdVerify(t, alias(memory), alias(memory[:20]), asked(), 1500, 1)
		if string(memory) != doc {
			t.Fatal("P2: Verify changes its texts")
		}
	}
}

// What is handed in may change between two calls: each is answered as things are then.
func TestChangedBetween(t *testing.T) {
	t.Parallel()
	a, b := secretHand(0, "a"), secretHand(1, "b")
	g := lay(generalText(tokensOf(body, a, b)...), setOf(a, b), tokensOf(body, a, b), asked())
	ask := func(code api.Errno, kids ...string) {
		t.Helper()
		if _, got, e := serial.Verify(g.text, g.keys, g.policy, 1500, 1); e != code || !slices.Equal(got, kids) {
			t.Fatalf("P3: %q, %d, want %q, %d", got, int(e), kids, int(code))
		}
	}
	ask(api.OK, "a", "b")
	g.policy.Algs[slices.Index(g.policy.Algs, "HS384")] = "none"
	ask(api.OK, "a")
	g.policy.Algs[slices.Index(g.policy.Algs, "HS256")] = "HS384"
	ask(api.OK, "b")
	g.policy.Need[0] = "nonce"
	ask(api.ErrFew)
	g.policy.Need[0] = "exp"
	g.bytes[0] = '['
	ask(api.ErrJson)
	g.bytes[0] = '{'
	ask(api.OK, "b")
	at := strings.Index(string(g.bytes), `"kid":"b"`)
	g.bytes[at+7] = 'a'
	ask(api.ErrFew)
}

// P3: calls at the same time know nothing of each other.
func TestAtOnce(t *testing.T) {
	t.Parallel()
	all := laid()
	var wanted []string
	for _, g := range all {
		wanted = append(wanted, g.ask(2).told())
	}
	var work sync.WaitGroup
	for worker := range 8 {
		work.Go(func() {
			r := rand.New(rand.NewSource(int64(worker)))
			for range 20 {
				i := r.Intn(len(all))
				a := all[i].ask(2)
				if a.told() != wanted[i] {
					t.Errorf("P3: worker %d: %s, want %s", worker, a.told(), wanted[i])
				}
				spoilTexts(a.kids)
				spoilTexts(a.tokens)
				spoilNodes(a.claims.Value)
			}
		})
	}
	work.Wait()
}

// P3: the order in which a map is gone through is not to be seen.
func TestSameEachTime(t *testing.T) {
	t.Parallel()
	var hands []hand
	var kids []string
	for i := range 16 {
		kids = append(kids, fmt.Sprintf("%x", 15-i))
		hands = append(hands, secretHand(i, kids[i]))
	}
	text, keys := generalText(tokensOf(body, hands...)...), setOf(hands...)
	slices.Sort(kids)
	for range 50 {
		if _, got, code := serial.Verify(text, keys, asked(), 1500, 16); code != api.OK || !slices.Equal(got, kids) {
			t.Fatalf("P3: %q, %d", got, int(code))
		}
	}
}
