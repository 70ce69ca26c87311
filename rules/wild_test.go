package rules_test

import (
	"math"
	"math/rand"
	"slices"
	"strings"
	"testing"

	"signet/api"
	"signet/json"
	"signet/rules"
)

var (
	wildTexts  = []string{"", "a", "b", "0", "01", "1", "-0", "1.", "1e5", "\xff", "\xed\xa0\x80", "é", "\x00", `"`, `\`, "and", "x y"}
	wildPlaces = []int{-1, -1, -1, 0, 1, 2, 3, -2, 1 << 40, math.MaxInt, math.MinInt}
)

func wildText(r *rand.Rand) string {
	if r.Intn(3) == 0 {
		b := make([]byte, r.Intn(5))
		r.Read(b)
		return string(b)
	}
	return pick(r, wildTexts)
}

func wildNode(r *rand.Rand) api.RuleNode {
	n := api.RuleNode{Op: api.RuleOp(r.Intn(14) - 1), A: pick(r, wildPlaces), B: pick(r, wildPlaces), Value: api.Kind(r.Intn(10) - 1), Text: wildText(r)}
	for range r.Intn(3) {
		n.Path = append(n.Path, wildText(r))
	}
	return n
}

// wildRule: nodes of any kind, or a rule with others in it.
func wildRule(r *rand.Rand) []api.RuleNode {
	var out []api.RuleNode
	if r.Intn(2) == 0 {
		out = drawnRule(r, 1+r.Intn(4))
	}
	for range r.Intn(3) {
		n := wildNode(r)
		if at := r.Intn(len(out) + 1); at == len(out) || r.Intn(2) == 0 {
			out = slices.Insert(out, at, n)
		} else {
			out[at] = n
		}
	}
	return out
}

func wildValue(r *rand.Rand) []api.Node {
	var v []api.Node
	if r.Intn(4) > 0 {
		v, _, _ = json.Parse(drawnValue(r, r.Intn(4)))
	}
	for range r.Intn(3) {
		n := api.Node{Kind: api.Kind(r.Intn(9)), Key: wildText(r), Text: wildText(r), Whole: r.Intn(2) == 0, Int: r.Int63(), Kids: pick(r, []int{0, 0, 1, 2, -1, 1 << 40, math.MaxInt, math.MinInt})}
		v = slices.Insert(v, r.Intn(len(v)+1), n)
	}
	return v
}

// P1: rules and values of any kind.
func TestWild(t *testing.T) {
	t.Parallel()
	r := rand.New(rand.NewSource(10))
	met := map[api.Errno]int{}
	for range 60000 {
		rule, v := wildRule(r), wildValue(r)
		holdRule(t, rule)
		_, code := holdHolds(t, rule, v)
		met[code]++
	}
	if met[api.OK] < 500 || met[api.ErrRule] < 500 || met[api.ErrClaims] < 500 {
		t.Fatalf("%v", met)
	}
}

// Texts of any bytes, of words in any order, and rules with bytes or words put in, taken away, changed and changed about.
func TestWildTexts(t *testing.T) {
	t.Parallel()
	r := rand.New(rand.NewSource(11))
	words := []string{"(", ")", "and", "or", "not", "has", "contains", "true", "false", "null", "a", "b", "_", "0", "1", "01", "-", "-1", "1.5", "1e5", "e", ".", "=", "!=", "<=", "<", ">", ">=", "!", `"`, `""`, `"x"`, `"\"`, `\`, " ", "  ", "\t", "\n", "é", "\xff", "\x00", "#", ","}
	met := map[api.Errno]int{}
	for i := range 60000 {
		var b strings.Builder
		switch i % 3 {
		case 0:
			for range r.Intn(12) {
				b.WriteString(pick(r, words))
			}
		case 1:
			bytes := make([]byte, r.Intn(20))
			r.Read(bytes)
			b.Write(bytes)
		default:
			text := []byte(spelled(r, drawnRule(r, 1+r.Intn(5))))
			for range 1 + r.Intn(2) {
				from := r.Intn(len(text) + 1)
				to := min(len(text), from+r.Intn(4))
				text = slices.Replace(text, from, to, []byte(pick(r, append(words, "", string(text[:r.Intn(min(8, len(text)+1))]))))...)
			}
			b.Write(text)
		}
		_, code := holdParse(t, b.String())
		met[code]++
	}
	if met[api.OK] < 1000 || met[api.ErrRule] < 10000 {
		t.Fatalf("%v", met)
	}
}

// Rows of the beginnings of words, up to and past the limits.
func TestWildRows(t *testing.T) {
	t.Parallel()
	for _, row := range []string{"(", "not ", "not(", "(not ", "has ", "a", "a.", `"`, `"\`, `""`, "-", "1", "=", "and ", "or ", "a=1and ", "a=1or(", "(a=1)and ", "a.0.", "0", " ", "\xff", ")", "contains ", `a contains"`, "not not(has a)or "} {
		for _, count := range []int{1, 2, 16, 17, 31, 32, 33, 34, 64, 100, api.MaxRule / len(row), api.MaxRule/len(row) + 1, 1 << 16} {
			for _, end := range []string{"", "a=1", "has b", ")", `"`, strings.Repeat(")", min(count, 64)), "a=1" + strings.Repeat(")", min(count, 64))} {
				text := strings.Repeat(row, count) + end
				_, _ = holdParse(t, text)
				holdAllow(t, text, value(t, `{"a":1}`))
			}
		}
	}
}

// Huge texts, parts, paths and values; what is too long is told so at once.
func TestWildSizes(t *testing.T) {
	t.Parallel()
	huge := strings.Repeat("a", 1<<24)
	mustFault(t, huge, api.ErrLarge, 0)
	v := value(t, `{"a":"a"}`)
	for _, r := range [][]api.RuleNode{{has(huge)}, {has("a", huge)}, {leaf(api.RuleContains, api.String, huge, "a")}, {leaf(api.RuleEqual, api.Number, strings.Repeat("1", 1<<24), "a")}, {has(slices.Repeat([]string{"a"}, 1<<20)...)}} {
		if !rules.Shaped(r) {
			t.Error("25.2: a huge node is not well shaped")
		}
		if text, code := rules.Print(r); text != "" || code != api.ErrRule {
			t.Errorf("25.2: a huge node: %d bytes, %d", len(text), int(code))
		}
		if ok, code := rules.Holds(r, v); ok || code != api.OK {
			t.Errorf("25.3: a huge node: %v, %d", ok, int(code))
		}
	}
	members := make([]api.Node, 1<<18)
	for i := range members {
		members[i] = api.Node{Kind: api.Null}
	}
	wide := slices.Concat([]api.Node{{Kind: api.Object, Kids: 1}, {Kind: api.List, Key: "a", Kids: len(members)}}, members)
	for text, want := range map[string]bool{"a.262143 = null": true, "has a.262144": false, `a contains ""`: false, "a.0 = null and a.131072 = null": true} {
		if code := rules.Allow(text, wide); (code == api.OK) != want {
			t.Errorf("25.4: Allow(%q) of a wide list: %d", text, int(code))
		}
	}
}

func FuzzTexts(f *testing.F) {
	r := rand.New(rand.NewSource(12))
	f.Add(fullText, `{"a_1":[{"é\"":-1500}],"c":"x","d":false,"h":1,"f":null}`)
	for range 40 {
		f.Add(spelled(r, drawnRule(r, 1+r.Intn(4))), drawnObject(r, 0))
	}
	f.Fuzz(func(t *testing.T, text, doc string) {
		v, _, _ := json.Parse(doc)
		holdAllow(t, text, v)
		if got, code := holdParse(t, text); code == api.OK {
			holds, e := holdHolds(t, got, v)
			if e == api.OK {
				holdMeaning(t, got, v, holds)
			}
		}
	})
}

func FuzzNodes(f *testing.F) {
	f.Add(1, -1, -1, "a", "0", 4, "1", 3, 2, 0, `{"a":[1]}`)
	f.Add(5, -1, -1, "a", "b", 5, "x", 11, -1, -1, `{"a":{"b":"x"}}`)
	f.Fuzz(func(t *testing.T, op, a, b int, one, two string, kind int, text string, op2, a2, b2 int, doc string) {
		v, _, _ := json.Parse(doc)
		first := api.RuleNode{Op: api.RuleOp(op % 14), A: a, B: b, Path: []string{one, two}, Value: api.Kind(kind % 9), Text: text}
		second := api.RuleNode{Op: api.RuleOp(op2 % 14), A: a2, B: b2}
		for _, r := range [][]api.RuleNode{{first}, {second}, {first, second}, {has("a"), first, second}, {leaf(first.Op, first.Value, text, one, two)}} {
			holdRule(t, r)
			holdHolds(t, r, v)
		}
	})
}
