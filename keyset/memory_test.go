package keyset_test

import (
	"fmt"
	"math/rand"
	"slices"
	"strings"
	"sync"
	"testing"

	"signet/api"
	"signet/keyset"
)

// someSets: documents whose entries have lists of all lengths.
func someSets() []string {
	r := rand.New(rand.NewSource(6))
	out := []string{`{"keys":[]}`, `{"keys":[{"kty":"oct","kid":"a","key_ops":[]}]}`, `{"keys":[{"kty":"EC","crv":"P-256","kid":"a","key_ops":["verify"]},{"kty":"RSA","kid":"b","key_ops":["verify"]},{"kty":"RSA","kid":"b"}]}`, `{"keys":[7]}`, `{"keys":[{"kty":"oct"},{"kty":7}]}`, `{"keys`}
	for n := range 60 {
		var ops []string
		for i := range n {
			ops = append(ops, fmt.Sprintf(`"%d"`, i))
		}
		more := `{"kty":"RSA","kid":"a","key_ops":[` + strings.Join(ops, ",") + `],"x":` + strings.Repeat("[", n%20) + `"y"` + strings.Repeat("]", n%20) + `}`
		out = append(out, set(append(drawnKeys(r, n%7), more)))
	}
	return out
}

// room: every list of some entries with its spare room, as a text each; the entries' own lists are those of the whole room.
func room(l []api.Entry) []string {
	out := []string{fmt.Sprintf("%q", fmt.Sprint(bares(l[:cap(l)])))}
	for _, x := range l {
		out = append(out, fmt.Sprintf("%+v", x.Value[:cap(x.Value)]), fmt.Sprintf("%q", x.Ops[:cap(x.Ops)]))
	}
	return out
}

func bares(l []api.Entry) []string {
	var out []string
	for _, x := range l {
		out = append(out, bare(x))
	}
	return out
}

func spoilNodes(v []api.Node) {
	for i := range v[:cap(v)] {
		v[:cap(v)][i] = api.Node{Kind: 77, Key: "spoilt", Text: "spoilt", Int: 7, Kids: -3}
	}
}

func spoilTexts(l []string) {
	for i := range l[:cap(l)] {
		l[:cap(l)][i] = "spoilt"
	}
}

// holdApart: a change in one list of an answer, its spare room too, shows in no other one.
func holdApart(t *testing.T, l []api.Entry) {
	t.Helper()
	for i, x := range l {
		for j, spoil := range []func(){func() { spoilNodes(x.Value) }, func() { spoilTexts(x.Ops) }} {
			was := room(l)
			spoil()
			now := room(l)
			was[1+2*i+j] = now[1+2*i+j]
			if !slices.Equal(was, now) {
				t.Fatal("P2: two lists of one answer share memory")
			}
		}
	}
}

func TestParseMemory(t *testing.T) {
	t.Parallel()
	for _, doc := range someSets() {
		want, wantCode := wantParse(doc)
		first, code := keyset.Parse(doc)
		second, again := keyset.Parse(doc)
		if code != wantCode || again != wantCode || !sameAll(first, want) || !sameAll(second, want) {
			t.Fatalf("P3: Parse(%.900q) hangs on what was asked ahead", doc)
		}
		was := room(second)
		holdApart(t, first)
		clear(first[:cap(first)])
		if !slices.Equal(room(second), was) {
			t.Fatalf("P2: Parse(%.900q): two answers share memory", doc)
		}
		if third, _ := keyset.Parse(doc); !sameAll(third, want) {
			t.Fatalf("P3: Parse(%.900q): a changed answer shows in a later one", doc)
		}
	}
}

// laid: the entries as a piece of a longer list, their lists as pieces of one memory each, with marks between them; each piece has all behind it as its spare room.
func laid(l []api.Entry) (nodes []api.Node, texts []string, whole, piece []api.Entry) {
	mark, word, more := api.Node{Kind: api.Object, Key: "crv", Text: "P-256", Kids: 7}, "verify", api.Entry{Kid: "a", HasKid: true}
	nodes, texts = []api.Node{mark}, []string{word}
	for _, x := range l {
		nodes = append(append(nodes, x.Value...), mark, mark)
		texts = append(append(texts, x.Ops...), word)
	}
	nodes, texts = slices.Clip(nodes), slices.Clip(texts)
	whole = slices.Concat([]api.Entry{more}, l, []api.Entry{more, more})
	node, text := 1, 1
	for i, x := range l {
		whole[1+i].Value, whole[1+i].Ops = nodes[node:node+len(x.Value)], texts[text:text+len(x.Ops)]
		node, text = node+len(x.Value)+2, text+len(x.Ops)+1
	}
	return nodes, texts, whole, whole[1 : 1+len(l)]
}

// P2 and P3 of Find and Bind: over memory that is marked, and of which all is looked at behind the calls.
func TestEntryMemory(t *testing.T) {
	t.Parallel()
	for _, doc := range someSets() {
		l, _ := wantParse(doc)
		nodes, texts, whole, piece := laid(l)
		nodesWere, textsWere, wholeWas := slices.Clone(nodes), slices.Clone(texts), room(whole)
		unchanged := func() bool {
			return slices.Equal(nodes, nodesWere) && slices.Equal(texts, textsWere) && slices.Equal(room(whole), wholeWas)
		}
		for _, x := range piece {
			holdBind(t, x)
		}
		var answers []api.Entry
		for _, kid := range someKids {
			want, wantCode := wantFind(l, kid)
			first, code := keyset.Find(piece, kid)
			second, again := keyset.Find(piece, kid)
			if code != wantCode || again != wantCode || !same(first, want) || !same(second, want) {
				t.Fatalf("P3: Find(%q) of %.900q hangs on spare room, or on what was asked ahead", kid, doc)
			}
			answers = append(answers, first, second)
		}
		if !unchanged() {
			t.Fatalf("P2: %.900q: a call changes what is handed in", doc)
		}
		was := room(answers)
		spoilNodes(nodes)
		spoilTexts(texts)
		if !slices.Equal(room(answers), was) {
			t.Fatalf("P2: %.900q: Find's answer goes with what was handed in", doc)
		}
		copy(nodes, nodesWere)
		copy(texts, textsWere)
		holdApart(t, answers)
		if !unchanged() {
			t.Fatalf("P2: %.900q: what is handed in goes with Find's answer", doc)
		}
	}
}

// A list without anything in it, but with spare room, is handed out without that room.
func TestEmptyLists(t *testing.T) {
	t.Parallel()
	nodes, texts := make([]api.Node, 9), make([]string, 9)
	x, code := keyset.Find([]api.Entry{{HasKid: true, Value: nodes[:0], Ops: texts[:0]}}, "")
	if code != api.OK || len(x.Value) != 0 || len(x.Ops) != 0 {
		t.Fatalf("16.3: %v, %d", x, int(code))
	}
	spoilNodes(x.Value)
	spoilTexts(x.Ops)
	_, _ = append(x.Value, api.Node{Kind: 1}), append(x.Ops, "a")
	if slices.ContainsFunc(nodes, func(n api.Node) bool { return n != api.Node{} }) || slices.ContainsFunc(texts, func(s string) bool { return s != "" }) {
		t.Fatal("P2: Find hands out the spare room of what it was given")
	}
}

// P3: calls at the same time know nothing of each other.
func TestAtOnce(t *testing.T) {
	t.Parallel()
	sets := someSets()
	given, _ := keyset.Parse(sets[2])
	var work sync.WaitGroup
	for worker := range 8 {
		work.Go(func() {
			for i := range sets {
				doc := sets[(i+5*worker)%len(sets)]
				want, wantCode := wantParse(doc)
				l, code := keyset.Parse(doc)
				if code != wantCode || !sameAll(l, want) {
					t.Errorf("P3: worker %d: Parse(%.900q) = %v, %d", worker, doc, l, int(code))
				}
				x, code := keyset.Find(given, "a")
				if code != api.OK || keyset.Bind(x, api.ES256) != api.OK || keyset.Bind(given[0], api.ES384) != api.ErrBinding {
					t.Errorf("P3: worker %d: Find(a) = %v, %d", worker, x, int(code))
				}
				spoilNodes(x.Value)
				spoilTexts(x.Ops)
			}
		})
	}
	work.Wait()
}
