package rules_test

import (
	"fmt"
	"math/rand"
	"slices"
	"strings"
	"sync"
	"testing"
	"unsafe"

	"signet/api"
	"signet/rules"
)

// alias: a text that lies in memory which the test can change.
func alias(memory []byte) string { return unsafe.String(unsafe.SliceData(memory), len(memory)) }

// aliased: the text in memory of its own, and that memory.
func aliased(s string) (string, []byte) {
	memory := append(make([]byte, 0, len(s)+40), s...)
	return alias(memory), memory
}

func spoilBytes(b []byte) {
	b = b[:cap(b)]
	for i := range b {
		b[i] ^= 0xff
	}
}

func spoilTexts(l []string) {
	for i := range l[:cap(l)] {
		l[:cap(l)][i] = "spoilt"
	}
}

func spoilRule(r []api.RuleNode) {
	for i := range r[:cap(r)] {
		r[:cap(r)][i] = api.RuleNode{Op: 77, A: 7, B: -7, Path: []string{"spoilt"}, Value: 66, Text: "spoilt"}
	}
}

// room: a rule with the spare room of all its lists.
func room(r []api.RuleNode) string {
	var b strings.Builder
	for _, n := range r[:cap(r)] {
		fmt.Fprintf(&b, "%+v %q\n", n, n.Path[:cap(n.Path)])
	}
	return b.String()
}

// someRuleTexts: rules and none, of all lengths.
func someRuleTexts() []string {
	r := rand.New(rand.NewSource(8))
	out := []string{"", "a", fullText, `has "\u0061"`, `a contains "\n"`, "a = -1.5e7", "((", strings.Repeat("not ", 33), strings.Repeat(" ", api.MaxRule+1), "has a"}
	for n := range 40 {
		out = append(out, "has a"+strings.Repeat(`."b"`, n), "has a"+strings.Repeat(" or has b.0", n), spelled(r, drawnRule(r, 1+n%9)))
	}
	return out
}

// P2 and P3 of Parse: its lists and texts share no memory with the text, with each other, or with another call's.
func TestParseMemory(t *testing.T) {
	t.Parallel()
	for _, text := range someRuleTexts() {
		want, f := wantParse(text)
		given, memory := aliased(text)
		first, code, at := rules.Parse(given)
		second, again, place := rules.Parse(given)
		if code != f.code || at != f.at || again != code || place != at || !same(first, want) || !same(second, want) {
			t.Fatalf("P3: Parse(%.200q) hangs on what was asked ahead", text)
		}
		if string(memory) != text || string(memory[:cap(memory)][len(text):]) != strings.Repeat("\x00", cap(memory)-len(text)) {
			t.Fatalf("P2: Parse(%.200q) changes the text", text)
		}
		was := room(second)
		holdApart(t, text, first, want)
		spoilRule(first)
		spoilBytes(memory)
		if room(second) != was || !same(second, want) {
			t.Fatalf("P2: Parse(%.200q): an answer goes with the text, or with another answer", text)
		}
		if third, _, _ := rules.Parse(text); !same(third, want) {
			t.Fatalf("P3: Parse(%.200q): a changed answer shows in a later one", text)
		}
	}
}

// holdApart spoils each list of the answer, with its spare room, and looks at all others.
func holdApart(t *testing.T, text string, got, want []api.RuleNode) {
	t.Helper()
	spoilRule(got[len(got):])
	for i := range got {
		spoilTexts(got[i].Path[len(got[i].Path):])
	}
	if !same(got, want) {
		t.Fatalf("P2: Parse(%.200q): what is laid behind one list shows in another", text)
	}
	for i := range got {
		spoilTexts(got[i].Path)
		if !same(got[i+1:], want[i+1:]) {
			t.Fatalf("P2: Parse(%.200q): two paths share memory", text)
		}
	}
	for i := range got {
		got[i].Path = want[i].Path
	}
	if !same(got, want) {
		t.Fatalf("P2: Parse(%.200q): a path shares memory with the nodes", text)
	}
}

// laid: the rule as a piece of a longer one, its paths as pieces of one list, its texts in memory that the test can change.
func laid(r []api.RuleNode) (piece, all []api.RuleNode, texts []string, memory []byte) {
	const mark = "mark"
	size := 0
	for _, n := range r {
		size += len(n.Text) + len(strings.Join(n.Path, ""))
	}
	memory = make([]byte, 0, size+8)
	keep := func(s string) string {
		from := len(memory)
		memory = append(memory, s...)
		return alias(memory[from:])
	}
	count := 2
	for _, n := range r {
		count += len(n.Path) + 1
	}
	texts = append(make([]string, 0, count), mark)
	marked := api.RuleNode{Op: api.RuleNot, A: len(r) - 1, B: -1, Path: nil, Text: ""}
	all = append(make([]api.RuleNode, 0, len(r)+3), marked)
	for _, n := range r {
		from := len(texts)
		for _, part := range n.Path {
			texts = append(texts, keep(part))
		}
		if n.Path = texts[from:]; len(n.Path) == 0 {
			n.Path = nil
		}
		texts = append(texts, mark)
		n.Text = keep(n.Text)
		all = append(all, n)
	}
	all = append(all, marked, marked)
	return all[1 : 1+len(r)], all, texts, memory
}

func copied(r []api.RuleNode) []api.RuleNode {
	out := slices.Clone(r)
	for i := range out {
		out[i].Path = slices.Clone(out[i].Path)
		out[i].Text = strings.Clone(out[i].Text)
	}
	return out
}

// P2 and P3 of Print, Shaped, Holds and Allow: over memory that is marked, and of which all is looked at behind the calls.
func TestGivenMemory(t *testing.T) {
	t.Parallel()
	r := rand.New(rand.NewSource(9))
	for range 2000 {
		rule := drawnRule(r, 1+r.Intn(8))
		if r.Intn(4) == 0 {
			rule[r.Intn(len(rule))].A++
		}
		piece, all, texts, memory := laid(rule)
		allWere, textsWere, memoryWas := copied(all), slices.Clone(texts), string(memory)
		for i := range textsWere {
			textsWere[i] = strings.Clone(textsWere[i])
		}
		v := value(t, drawnObject(r, 0))
		nodes := slices.Concat([]api.Node{{Kind: api.Null}}, v, []api.Node{{Kind: api.True, Key: "a"}, {Kind: api.Object}})
		nodesWere := slices.Clone(nodes)
		given := nodes[1 : 1+len(v)]
		first, code := holdRule(t, piece)
		was := strings.Clone(first)
		second, again := rules.Print(piece)
		if first != second || code != again {
			t.Fatalf("P3: Print(%s) hangs on what was asked ahead", short(rule))
		}
		holdHolds(t, piece, given)
		text, textMemory := aliased(was)
		holdAllow(t, text, given)
		if !same(all, allWere) || !slices.Equal(texts, textsWere) || string(memory) != memoryWas || string(textMemory) != was || !slices.Equal(nodes, nodesWere) {
			t.Fatalf("P2: a call changes %s, or %s, or the room behind them", short(rule), short(v))
		}
		spoilBytes(memory)
		if first != was || second != was {
			t.Fatalf("P2: Print's answer goes with the rule: %q", was)
		}
	}
}

// A rule and an object that are changed between the calls are taken as they are at each call.
func TestChangedBetween(t *testing.T) {
	t.Parallel()
	text, memory := aliased("a = 1")
	v := value(t, `{"a":1,"b":2}`)
	mustAllow(t, true, text, v)
	memory[0] = 'b'
	mustAllow(t, false, text, v)
	memory[4] = '2'
	mustAllow(t, true, text, v)
	v[2].Key = "c"
	mustAllow(t, false, text, v)
	v[2].Kind, v[2].Key = 99, "b"
	if code := holdAllow(t, text, v); code != api.ErrClaims {
		t.Errorf("25.4: of an object spoilt between: %d", int(code))
	}
	r := rule(t, "has a or has b")
	r[0].Path[0] = "x"
	if got, code := holdRule(t, r); got != "has x or has b" {
		t.Errorf("25.2: Print of a changed rule: %q, %d", got, int(code))
	}
	r[2].A = 1
	if got, code := holdRule(t, r); code != api.ErrRule {
		t.Errorf("25.2: Print of a spoilt rule: %q, %d", got, int(code))
	}
}

// P3: calls at the same time know nothing of each other.
func TestAtOnce(t *testing.T) {
	t.Parallel()
	texts := someRuleTexts()
	shared := rule(t, fullText)
	canonical, _ := wantText(shared)
	v := value(t, `{"a_1":[{"é\"":-1500}],"c":"\ud83d\ude00x","d":false,"h":1,"f":null}`)
	holds, _ := wantHolds(shared, v)
	var work sync.WaitGroup
	for worker := range 8 {
		work.Go(func() {
			for i := range texts {
				text := texts[(i+7*worker)%len(texts)]
				want, f := wantParse(text)
				got, code, at := rules.Parse(text)
				if code != f.code || at != f.at || !same(got, want) {
					t.Errorf("P3: worker %d: Parse(%.100q) = %s, %d at %d", worker, text, short(got), int(code), at)
				}
				for j := range got {
					spoilTexts(got[j].Path)
				}
				spoilRule(got)
				if out, code := rules.Print(shared); out != canonical || code != api.OK {
					t.Errorf("P3: worker %d: Print = %q, %d", worker, out, int(code))
				}
				if is, code := rules.Holds(shared, v); is != holds || code != api.OK || !rules.Shaped(shared) {
					t.Errorf("P3: worker %d: Holds = %v, %d", worker, is, int(code))
				}
				if code, want := rules.Allow(text, v), wantAllow(text, v); code != want {
					t.Errorf("P3: worker %d: Allow(%.100q) = %d, want %d", worker, text, int(code), int(want))
				}
			}
		})
	}
	work.Wait()
}
