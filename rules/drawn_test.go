package rules_test

import (
	"fmt"
	"math/rand"
	"slices"
	"strings"
	"testing"

	"signet/api"
	"signet/json"
	"signet/rules"
)

func pick[T any](r *rand.Rand, of []T) T { return of[r.Intn(len(of))] }

var (
	someParts   = []string{"a", "b", "c", "l", "o", "s", "0", "1", "2", "10", "01", "00", "", "and", "or", "not", "has", "contains", "true", "false", "null", "And", "nota", "_", "_0", "a b", "a.b", "é", "\"", "\\", "\x00", "\n", "\u2028", "\U0010ffff", "-1", "1.0", "1e0", "+1", "99999999999999999999", "18446744073709551616", "(", ")"}
	someNumbers = []string{"0", "-0", "0.0", "1", "1.0", "10e-1", "-1", "1.00000001", "1.0000001", "16777216", "16777217", "16777218", "3.4028234e38", "3.4028236e38", "340282356779733661637539395458142568447", "340282356779733661637539395458142568448", "1e39", "1e40", "-1e39", "-1e99999999999999999999", "1e99999999999999999999", "0e99999999999999999999", "1e-45", "7e-46", "7.1e-46", "-7e-46", "1e-999", "0.1", "0.10000000149", "0.100000001490116119384765625", "2"}
	someTexts   = []string{"", "a", "x", "y", "xy", "yx", "l", "1", "true", "null", "é", "e\u0301", "\x00", "\"", "\\", "\n", "a b", "and", "\U0001f600"}
	comparisons = []api.RuleOp{api.RuleEqual, api.RuleUnequal, api.RuleLess, api.RuleAtMost, api.RuleMore, api.RuleAtLeast}
	plainKinds  = []api.Kind{api.Number, api.String, api.True, api.False, api.Null}
)

func drawnText(r *rand.Rand) string {
	if r.Intn(3) > 0 {
		return pick(r, someTexts)
	}
	var b strings.Builder
	for range r.Intn(5) {
		b.WriteRune(pick(r, []rune{rune(r.Intn(128)), rune(r.Intn(0xd800)), rune(0xe000 + r.Intn(0x102000)), '"', '\\'}))
	}
	return b.String()
}

func drawnNumber(r *rand.Rand) string {
	if r.Intn(3) > 0 {
		return pick(r, someNumbers)
	}
	return fmt.Sprintf("%s%d%s%s", pick(r, []string{"", "-"}), r.Intn(1<<r.Intn(30)), pick(r, []string{"", ".5", ".0", ".250"}), pick(r, []string{"", "", "e1", "E+2", "e-07"}))
}

func drawnPath(r *rand.Rand) []string {
	var path []string
	for range 1 + r.Intn(1+r.Intn(4)) {
		if r.Intn(4) > 0 {
			path = append(path, pick(r, someParts[:9]))
		} else {
			path = append(path, pick(r, append(someParts, drawnText(r))))
		}
	}
	return path
}

func drawnLeaf(r *rand.Rand) api.RuleNode {
	path := drawnPath(r)
	switch r.Intn(6) {
	case 0:
		return has(path...)
	case 1:
		return leaf(api.RuleContains, api.String, drawnText(r), path...)
	}
	n := leaf(pick(r, comparisons), pick(r, plainKinds), "", path...)
	switch n.Value {
	case api.Number:
		n.Text = drawnNumber(r)
	case api.String:
		n.Text = drawnText(r)
	}
	return n
}

// drawnRule: of so many leaves.
func drawnRule(r *rand.Rand, leaves int) []api.RuleNode {
	out := []api.RuleNode{drawnLeaf(r)}
	if leaves > 1 {
		left := 1 + r.Intn(leaves-1)
		out = joined(pick(r, []api.RuleOp{api.RuleAnd, api.RuleOr}), drawnRule(r, left), drawnRule(r, leaves-left))
	}
	for r.Intn(4) == 0 {
		out = not(out)
	}
	return out
}

// spelling: a rule's words, spelled in any way.
type spelling struct {
	r     *rand.Rand
	rule  []api.RuleNode
	loose int // of how many chances one puts in more brackets
}

func (s spelling) quoted(text string) string {
	var b strings.Builder
	b.WriteByte('"')
	for _, c := range text {
		switch plain := wantQuoted(string(c)); {
		case c < 0x10000 && s.r.Intn(4) == 0:
			fmt.Fprintf(&b, pick(s.r, []string{`\u%04x`, `\u%04X`}), c)
		case c == '/' && s.r.Intn(2) == 0:
			b.WriteString(`\/`)
		default:
			b.WriteString(plain[1 : len(plain)-1])
		}
	}
	b.WriteByte('"')
	return b.String()
}

func (s spelling) path(path []string) []string {
	var words []string
	for i, part := range path {
		if i > 0 {
			words = append(words, ".")
		}
		if isNameText(part) && s.r.Intn(4) > 0 || i > 0 && placeForm.MatchString(part) && s.r.Intn(4) > 0 {
			words = append(words, part)
		} else {
			words = append(words, s.quoted(part))
		}
	}
	return words
}

// words of the tree whose root is at the place; an Or only if weak is 0, an And only up to 1, else with brackets.
func (s spelling) words(at, weak int) []string {
	n := s.rule[at]
	var out []string
	least := 2
	switch n.Op {
	case api.RuleOr:
		out, least = slices.Concat(s.words(n.A, 0), []string{"or"}, s.words(n.B, 1)), 0
	case api.RuleAnd:
		out, least = slices.Concat(s.words(n.A, 1), []string{"and"}, s.words(n.B, 2)), 1
	case api.RuleNot:
		out = slices.Concat([]string{"not"}, s.words(n.A, 2))
	case api.RuleHas:
		out = slices.Concat([]string{"has"}, s.path(n.Path))
	case api.RuleContains:
		out = slices.Concat(s.path(n.Path), []string{"contains", s.quoted(n.Text)})
	default:
		for sign, op := range signOps {
			if op == n.Op {
				value := map[api.Kind]string{api.True: "true", api.False: "false", api.Null: "null", api.Number: n.Text}[n.Value]
				if n.Value == api.String {
					value = s.quoted(n.Text)
				}
				out = slices.Concat(s.path(n.Path), []string{sign, value})
			}
		}
	}
	if least < weak || s.loose > 0 && s.r.Intn(s.loose) == 0 {
		out = slices.Concat([]string{"("}, out, []string{")"})
	}
	return out
}

// text: the words, with blanks where they must be, and anywhere else.
func (s spelling) text(words []string) string {
	blank := func() string {
		n := 0
		if s.r.Intn(3) == 0 {
			n = s.r.Intn(3)
		}
		out := ""
		for range n {
			out += pick(s.r, []string{" ", "\t", "\n", "\r"})
		}
		return out
	}
	out := blank()
	for i, w := range words {
		if i > 0 && nameRow.MatchString(words[i-1]) && (nameRow.MatchString(w) || placeRow.MatchString(w)) {
			out += pick(s.r, []string{" ", "\t", "\n", "\r"})
		}
		out += blank() + w
	}
	return out + blank()
}

// spelled: a text of the rule.
func spelled(r *rand.Rand, rule []api.RuleNode) string {
	s := spelling{r, rule, pick(r, []int{0, 3, 8})}
	return s.text(s.words(len(rule)-1, 0))
}

// Drawn rules, there and back, and spelled in any way.
func TestDrawnRules(t *testing.T) {
	t.Parallel()
	r := rand.New(rand.NewSource(1))
	taken, printed := 0, 0
	for range 12000 {
		want := drawnRule(r, 1+r.Intn(1+r.Intn(12)))
		if _, code := holdRule(t, want); code == api.OK {
			printed++
		}
		text := spelled(r, want)
		got, code := holdParse(t, text)
		if code == api.OK {
			taken++
		}
		if code == api.OK && !same(got, want) || code != api.OK && len(text) <= api.MaxRule && code != api.ErrDeep {
			t.Fatalf("25.1: Parse(%q) = %s, %d, want %s", text, short(got), int(code), short(want))
		}
	}
	if taken < 11000 || printed < 11000 {
		t.Fatalf("only %d were taken, and %d printed", taken, printed)
	}
}

// drawnValue: of any kind, with the parts that drawn paths have.
func drawnValue(r *rand.Rand, depth int) string {
	kind := r.Intn(8)
	switch {
	case depth > 3 && kind > 4 || kind == 0:
		return drawnNumber(r)
	case kind == 1:
		return wantQuoted(drawnText(r))
	case kind == 2:
		return "null"
	case kind == 3:
		return "true"
	case kind == 4:
		return "false"
	case kind == 5:
		var l []string
		for range r.Intn(4) {
			l = append(l, drawnValue(r, depth+1))
		}
		return "[" + strings.Join(l, ",") + "]"
	}
	return drawnObject(r, depth+1)
}

func drawnObject(r *rand.Rand, depth int) string {
	var l []string
	parts := slices.Clone(someParts)
	if r.Intn(4) > 0 {
		parts = parts[:9]
	}
	r.Shuffle(len(parts), func(i, j int) { parts[i], parts[j] = parts[j], parts[i] })
	for _, part := range parts[:r.Intn(min(len(parts), 12))] {
		l = append(l, wantQuoted(part)+":"+drawnValue(r, depth))
	}
	return "{" + strings.Join(l, ",") + "}"
}

// aimed: a leaf with a path that leads to a value of the object, and most often the value's kind and text.
func aimed(r *rand.Rand, v []api.Node) api.RuleNode {
	n := drawnLeaf(r)
	at, path := 0, []string(nil)
	for len(path) == 0 || r.Intn(3) > 0 {
		kids := json.Kids(v, at)
		if len(kids) == 0 {
			break
		}
		i := r.Intn(len(kids))
		part := v[kids[i]].Key
		if v[at].Kind == api.List {
			part = fmt.Sprint(i)
		}
		at, path = kids[i], append(path, part)
	}
	if len(path) == 0 {
		return n
	}
	n.Path = path
	if x := v[at]; slices.Contains(comparisons, n.Op) && slices.Contains(plainKinds, x.Kind) {
		n.Value, n.Text = x.Kind, x.Text
		if r.Intn(2) == 0 && x.Kind == api.Number {
			n.Text = drawnNumber(r)
		}
		if r.Intn(2) == 0 && x.Kind == api.String {
			n.Text = drawnText(r)
		}
	}
	return n
}

// Drawn rules of drawn objects, Allow of their texts, and 25.6 of their parts.
func TestDrawnHolds(t *testing.T) {
	t.Parallel()
	r := rand.New(rand.NewSource(2))
	met := map[bool]int{}
	for range 12000 {
		v := value(t, drawnObject(r, 0))
		rule := drawnRule(r, 1+r.Intn(4))
		for i, n := range rule {
			if n.A < 0 && r.Intn(4) > 0 {
				rule[i] = aimed(r, v)
			}
		}
		got, code := holdHolds(t, rule, v)
		if code != api.OK {
			t.Fatalf("25.3: Holds(%s, %s): %d", short(rule), short(v), int(code))
		}
		met[got]++
		holdMeaning(t, rule, v, got)
		if text := spelled(r, rule); len(text) <= api.MaxRule {
			holdAllow(t, text, v)
		}
	}
	if met[true] < 3000 || met[false] < 3000 {
		t.Fatalf("%v", met)
	}
}

// part: the tree whose root is at the place, as a rule of its own.
func part(rule []api.RuleNode, at int) []api.RuleNode {
	first := firstOf(rule, at)
	out := slices.Clone(rule[first : at+1])
	for i := range out {
		if out[i].A >= 0 {
			out[i].A -= first
		}
		if out[i].B >= 0 {
			out[i].B -= first
		}
	}
	return out
}

// holdMeaning: 25.6 of the root, by the answers of Holds alone.
func holdMeaning(t *testing.T, rule []api.RuleNode, v []api.Node, got bool) {
	t.Helper()
	ask := func(r ...api.RuleNode) bool {
		holds, code := rules.Holds(r, v)
		if code != api.OK {
			t.Fatalf("25.3: Holds(%s, %s): %d", short(r), short(v), int(code))
		}
		return holds
	}
	n := rule[len(rule)-1]
	want := got
	switch n.Op {
	case api.RuleAnd:
		want = ask(part(rule, n.A)...) && ask(part(rule, n.B)...)
	case api.RuleOr:
		want = ask(part(rule, n.A)...) || ask(part(rule, n.B)...)
	case api.RuleNot:
		want = !ask(part(rule, n.A)...)
	default:
		if got && !ask(has(n.Path...)) {
			t.Fatalf("25.6: %s is true, has is not", short(n))
		}
	}
	if got != want {
		t.Fatalf("25.6: Holds(%s, %s) = %v", short(rule), short(v), got)
	}
	if !slices.Contains(comparisons, n.Op) {
		return
	}
	is := map[api.RuleOp]bool{}
	for _, op := range comparisons {
		is[op] = ask(leaf(op, n.Value, n.Text, n.Path...))
	}
	eq, ne, lt, le, gt, ge := is[api.RuleEqual], is[api.RuleUnequal], is[api.RuleLess], is[api.RuleAtMost], is[api.RuleMore], is[api.RuleAtLeast]
	isNumber := n.Value == api.Number
	if isNumber && ((eq || lt) != le || (eq || gt) != ge) || lt && ge || eq && ne || !isNumber && (lt || le || gt || ge) {
		t.Fatalf("25.6: %s of %s: %v", short(n), short(v), is)
	}
	x, _ := wantLead(n.Path, goObject(v))
	there := isNumber && fmt.Sprintf("%T", x) == fmt.Sprintf("%T", number("")) || n.Value == api.String && fmt.Sprintf("%T", x) == "string"
	if there && eq == ne {
		t.Fatalf("25.6: != is not the opposite of = for %s of %s", short(n), short(v))
	}
}

func goObject(v []api.Node) any {
	x, _ := goValue(v, 0)
	return x
}

// 25.7: members that no path begins with, added, taken away and put in another order.
func TestOnlyWhatItAsks(t *testing.T) {
	t.Parallel()
	r := rand.New(rand.NewSource(3))
	for range 6000 {
		rule := drawnRule(r, 1+r.Intn(4))
		asked := map[string]bool{}
		for _, n := range rule {
			if len(n.Path) > 0 {
				asked[n.Path[0]] = true
			}
		}
		var those, others []string
		for _, name := range someParts {
			member := wantQuoted(name) + ":" + drawnValue(r, 0)
			if asked[name] {
				those = append(those, member)
			} else if r.Intn(2) == 0 {
				others = append(others, member)
			}
		}
		want, code := holdHolds(t, rule, value(t, "{"+strings.Join(those, ",")+"}"))
		all := slices.Concat(those, others)
		r.Shuffle(len(all), func(i, j int) { all[i], all[j] = all[j], all[i] })
		if got, e := holdHolds(t, rule, value(t, "{"+strings.Join(all, ",")+"}")); code != api.OK || e != api.OK || got != want {
			t.Fatalf("25.7: %s is %v of %q, and %v of %q", short(rule), want, those, got, all)
		}
	}
}
