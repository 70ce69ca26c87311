package rules_test

import (
	"math"
	"slices"
	"strings"
	"testing"

	"signet/api"
	"signet/rules"
)

// What the canonical text looks like, brackets first.
func TestCanonical(t *testing.T) {
	t.Parallel()
	for _, c := range [][2]string{
		{"has a and has b or has c", "has a and has b or has c"},
		{"(has a and has b) or has c", "has a and has b or has c"},
		{"has a or (has b and has c)", "has a or has b and has c"},
		{"has a and (has b or has c)", "has a and (has b or has c)"},
		{"(has a or has b) and has c", "(has a or has b) and has c"},
		{"(has a or has b) or has c", "has a or has b or has c"},
		{"has a or (has b or has c)", "has a or (has b or has c)"},
		{"(has a and has b) and has c", "has a and has b and has c"},
		{"has a and (has b and has c)", "has a and (has b and has c)"},
		{"not (has a and has b)", "not (has a and has b)"},
		{"not (has a or has b)", "not (has a or has b)"},
		{"not (not has a)", "not not has a"},
		{"not ((has a))", "not has a"},
		{"(not has a) and (not has b) or (not has c)", "not has a and not has b or not has c"},
		{"((has a or has b) or (has c and has d)) and (has e)", "(has a or has b or has c and has d) and has e"},
		{"has a or (has b or (has c or has d))", "has a or (has b or (has c or has d))"},
		{"not (has a and (has b or not (has c or has d)))", "not (has a and (has b or not (has c or has d)))"},
		{`"a"."b"."0"."01".""."and"."a b"."é" = 1.50e+07`, `a.b.0."01".""."and"."a b"."é" = 1.50e+07`},
		{`"0" = -0`, `"0" = -0`},
		{`"10"."10" contains "\u0061\/\b\u001F\u007f\u00e9"`, `"10".10 contains "a/\b\u001f` + "\x7fé" + `"`},
		{`"-1"."1.0"."+1"."1e0" = null`, `"-1"."1.0"."+1"."1e0" = null`},
		{`has "\"\\\n\u0000"`, `has "\"\\\n\u0000"`},
		{"a=true", "a = true"}, {"a!=false", "a != false"}, {"a<null", "a < null"}, {`a<=""`, `a <= ""`}, {"a>0", "a > 0"}, {"a>=0", "a >= 0"},
	} {
		mustPrint(t, c[0], c[1])
		mustPrint(t, c[1], c[1])
	}
}

// Every tree of up to four leaves, with nots: brackets stand just where they must. Each text with one pair of them taken out is another rule, or none.
func TestEveryTree(t *testing.T) {
	t.Parallel()
	trees := map[int][][]api.RuleNode{1: {{has("a")}, not([]api.RuleNode{has("a")})}}
	for leaves := 2; leaves <= 4; leaves++ {
		for left := 1; left < leaves; left++ {
			for _, a := range trees[left] {
				for _, b := range trees[leaves-left] {
					for _, op := range []api.RuleOp{api.RuleAnd, api.RuleOr} {
						one := joined(op, a, b)
						trees[leaves] = append(trees[leaves], one)
						if leaves < 4 {
							trees[leaves] = append(trees[leaves], not(one))
						}
					}
				}
			}
		}
		for _, r := range trees[leaves] {
			text, code := holdRule(t, r)
			if code != api.OK {
				t.Fatalf("25.2: Print(%s): %d", short(r), int(code))
			}
			holdBrackets(t, text, r)
		}
	}
}

func holdBrackets(t *testing.T, text string, r []api.RuleNode) {
	t.Helper()
	for i := range len(text) {
		if text[i] != '(' {
			continue
		}
		j, open := i, 0
		for {
			if text[j] == '(' {
				open++
			} else if text[j] == ')' {
				open--
			}
			if open == 0 {
				break
			}
			j++
		}
		without := text[:i] + " " + text[i+1:j] + " " + text[j+1:]
		if other, _, _ := rules.Parse(without); same(other, r) {
			t.Fatalf("25.2: Print(%s) = %q, where %q says the same", short(r), text, without)
		}
	}
}

// The length of the canonical text, up to MaxRule and beyond, by each part of it.
func TestPrintLength(t *testing.T) {
	t.Parallel()
	for _, f := range []func(n int) []api.RuleNode{
		func(n int) []api.RuleNode { return []api.RuleNode{has(strings.Repeat("a", n))} },
		func(n int) []api.RuleNode { return []api.RuleNode{has("a", strings.Repeat("7", n))} },
		func(n int) []api.RuleNode { return []api.RuleNode{has(strings.Repeat(" ", n))} },
		func(n int) []api.RuleNode { return []api.RuleNode{has(strings.Repeat("7", n))} },
		func(n int) []api.RuleNode { return []api.RuleNode{has(strings.Repeat("\x00", n/6) + "a")} },
		func(n int) []api.RuleNode { return []api.RuleNode{has(slices.Repeat([]string{"a"}, 1+n/2)...)} },
		func(n int) []api.RuleNode {
			return []api.RuleNode{leaf(api.RuleEqual, api.Number, "1"+strings.Repeat("0", n), "a")}
		},
		func(n int) []api.RuleNode {
			return []api.RuleNode{leaf(api.RuleContains, api.String, strings.Repeat("é", n/2), "a")}
		},
		func(n int) []api.RuleNode {
			return []api.RuleNode{leaf(api.RuleLess, api.String, strings.Repeat(`"`, n/2), "a")}
		},
		func(n int) []api.RuleNode {
			return joined(api.RuleOr, []api.RuleNode{has("a")}, []api.RuleNode{has(strings.Repeat("b", n))})
		},
		func(n int) []api.RuleNode { return not([]api.RuleNode{has(strings.Repeat("b", n))}) },
		func(n int) []api.RuleNode {
			return not(joined(api.RuleOr, []api.RuleNode{has(strings.Repeat("b", n))}, []api.RuleNode{has("a")}))
		},
	} {
		met := map[api.Errno]int{}
		for n := 960; n <= 1040; n++ {
			_, code := holdRule(t, f(n))
			met[code]++
		}
		if met[api.OK] == 0 || met[api.ErrRule] == 0 {
			t.Errorf("25.2: %v", met)
		}
		for _, n := range []int{api.MaxRule * 2, api.MaxKeys - 1, api.MaxKeys + 1, api.MaxKeys * 7} {
			if text, code := rules.Print(f(n)); text != "" || code != api.ErrRule {
				t.Errorf("25.2: %d bytes, %d", len(text), int(code))
			}
			if !rules.Shaped(f(n)) {
				t.Errorf("25.2: a long rule is not well shaped")
			}
		}
	}
	if text, code := rules.Print([]api.RuleNode{has(strings.Repeat("a", api.MaxRule-4))}); len(text) != api.MaxRule || code != api.OK {
		t.Errorf("25.2: a text of MaxRule bytes: %d, %d", len(text), int(code))
	}
}

// chain: so many leaves, joined to the left or to the right.
func chain(op api.RuleOp, leaves int, right bool) []api.RuleNode {
	var out []api.RuleNode
	if !right {
		out = append(out, has("a"))
		for range leaves - 1 {
			out = append(out, has("a"), api.RuleNode{Op: op, A: len(out) - 1, B: len(out)})
		}
		return out
	}
	for range leaves {
		out = append(out, has("a"))
	}
	for i := range leaves - 1 {
		out = append(out, api.RuleNode{Op: op, A: leaves - 2 - i, B: len(out) - 1})
	}
	return out
}

// notted: a leaf behind so many nots.
func notted(n api.RuleNode, nots int) []api.RuleNode {
	out := []api.RuleNode{n}
	for i := range nots {
		out = append(out, api.RuleNode{Op: api.RuleNot, A: i, B: -1})
	}
	return out
}

// MaxDepth of the canonical text: brackets and nots, just those that stand in it.
func TestPrintDepth(t *testing.T) {
	t.Parallel()
	for n := 1; n < 80; n++ {
		for _, c := range []struct {
			r    []api.RuleNode
			open int
		}{
			{notted(has("a"), n), n},
			{chain(api.RuleAnd, n, true), max(n-2, 0)},
			{chain(api.RuleOr, n, true), max(n-2, 0)},
			{chain(api.RuleAnd, n, false), 0},
			{chain(api.RuleOr, n, false), 0},
			{not(chain(api.RuleAnd, n, false)), 1 + min(n-1, 1)},
			{joined(api.RuleAnd, notted(has("a"), n), notted(has("b"), n)), n},
			{joined(api.RuleAnd, chain(api.RuleOr, n, true), notted(has("b"), 3)), max(n-1, 3)},
		} {
			want := api.OK
			if c.open > api.MaxDepth {
				want = api.ErrRule
			}
			if text, code := holdRule(t, c.r); code != want && len(text) < api.MaxRule {
				t.Errorf("25.2: Print with %d open: %q, %d", c.open, text, int(code))
			}
		}
	}
}

// Rules that no text says: so long, or so deep, that no call a node may go down. Shaped and Holds take them all the same.
func TestHuge(t *testing.T) {
	t.Parallel()
	v := value(t, `{"a":1}`)
	for _, n := range []int{1000, 1 << 16, 1 << 19} {
		for i, r := range [][]api.RuleNode{notted(has("a"), n), chain(api.RuleAnd, n, false), chain(api.RuleOr, n, true), chain(api.RuleAnd, n, true), not(chain(api.RuleOr, n, false))} {
			if !rules.Shaped(r) {
				t.Errorf("25.2: %d, %d: not well shaped", n, i)
			}
			if text, code := rules.Print(r); text != "" || code != api.ErrRule {
				t.Errorf("25.2: %d, %d: %d bytes, %d", n, i, len(text), int(code))
			}
			if ok, code := rules.Holds(r, v); ok != (i < 4) || code != api.OK {
				t.Errorf("25.3: %d, %d: %v, %d", n, i, ok, int(code))
			}
			r[len(r)/2].Text = "x"
			if rules.Shaped(r) {
				t.Errorf("25.2: %d, %d: well shaped with a text in the middle", n, i)
			}
		}
	}
}

// Each node's own parts: every op, with every kind, and texts and paths of each sort.
func TestEveryNode(t *testing.T) {
	t.Parallel()
	ops := []api.RuleOp{0, api.RuleAnd, api.RuleOr, api.RuleNot, api.RuleHas, api.RuleEqual, api.RuleUnequal, api.RuleLess, api.RuleAtMost, api.RuleMore, api.RuleAtLeast, api.RuleContains, 12, -1, math.MaxInt, math.MinInt, 1 << 32, 1<<32 + 4}
	kinds := []api.Kind{0, api.Null, api.False, api.True, api.Number, api.String, api.List, api.Object, 8, -1, math.MaxInt, math.MinInt, 1<<32 + 4}
	texts := []string{"", "a", "1", "01", "-0", "1.", "1e5", "true", "\xff", "é", "\xed\xa0\x80", " 1", "\x00"}
	paths := [][]string{nil, {}, {""}, {"a"}, {"a", ""}, {"a", "0"}, {"0", "a"}, {"\xff"}, {"a", "\xc3"}, {"\xed\xa0\x80", "a"}, {"é"}}
	places := []int{-1, 0, 1, -2, math.MaxInt, math.MinInt}
	taken := 0
	for _, op := range ops {
		for _, kind := range kinds {
			for _, text := range texts {
				for _, path := range paths {
					for _, a := range places[:2] {
						n := api.RuleNode{Op: op, A: a, B: -1, Path: path, Value: kind, Text: text}
						if _, code := holdRule(t, []api.RuleNode{n}); code == api.OK {
							taken++
						}
						holdRule(t, []api.RuleNode{has("a"), n})
						n.B = 1
						holdRule(t, []api.RuleNode{has("a"), has("b"), n})
					}
				}
			}
		}
		for _, a := range places {
			for _, b := range places {
				for count := range 4 {
					n := api.RuleNode{Op: op, A: a, B: b}
					holdRule(t, append(chain(api.RuleAnd, 1, false), n))
					holdRule(t, append(slices.Repeat([]api.RuleNode{has("a")}, count), n))
					n.Path = []string{"a"}
					holdRule(t, append(slices.Repeat([]api.RuleNode{has("a")}, count), n))
				}
			}
		}
	}
	if taken < 300 {
		t.Errorf("only %d were well shaped", taken)
	}
}

// Every list of up to four nodes with every place, whether it is a tree or none.
func TestEveryList(t *testing.T) {
	t.Parallel()
	taken := map[int]int{}
	var grow func(r []api.RuleNode)
	grow = func(r []api.RuleNode) {
		if _, code := holdRule(t, r); code == api.OK {
			taken[len(r)]++
		}
		if len(r) == 4 {
			return
		}
		grow(append(slices.Clone(r), has("a")))
		for _, op := range []api.RuleOp{api.RuleNot, api.RuleAnd, api.RuleOr} {
			for a := -1; a <= len(r); a++ {
				for b := -1; b <= len(r); b++ {
					grow(append(slices.Clone(r), api.RuleNode{Op: op, A: a, B: b}))
				}
			}
		}
	}
	grow(nil)
	// Of n nodes: a leaf and nots; of two leaves an And or Or, with a not at one of three places.
	for n, want := range map[int]int{0: 0, 1: 1, 2: 1, 3: 1 + 2, 4: 1 + 3*2} {
		if taken[n] != want {
			t.Errorf("25.2: %d lists of %d nodes are well shaped, not %d", taken[n], n, want)
		}
	}
}

// Well shaped rules, changed in one place.
func TestSpoilt(t *testing.T) {
	t.Parallel()
	for seed := range 3 {
		for _, text := range []string{fullText, "has a", "not has a and has b or not (has c or d = 1)", `a contains "x" and (b = 1 and c = true or not has "é".0)`} {
			r := rule(t, text)
			for i := range r {
				for _, change := range []func(n *api.RuleNode){
					func(n *api.RuleNode) { n.A++ }, func(n *api.RuleNode) { n.A-- }, func(n *api.RuleNode) { n.B++ }, func(n *api.RuleNode) { n.B-- },
					func(n *api.RuleNode) { n.A, n.B = n.B, n.A }, func(n *api.RuleNode) { n.A = -1 }, func(n *api.RuleNode) { n.B = -1 }, func(n *api.RuleNode) { n.A = math.MinInt }, func(n *api.RuleNode) { n.B = math.MaxInt },
					func(n *api.RuleNode) { n.Op++ }, func(n *api.RuleNode) { n.Op-- }, func(n *api.RuleNode) { n.Op = 0 }, func(n *api.RuleNode) { n.Op = api.RuleNot }, func(n *api.RuleNode) { n.Op = api.RuleAnd },
					func(n *api.RuleNode) { n.Path = nil }, func(n *api.RuleNode) { n.Path = append(slices.Clone(n.Path), "a") }, func(n *api.RuleNode) { n.Path = append(slices.Clone(n.Path), "\xff") }, func(n *api.RuleNode) { n.Path = append([]string{"0"}, n.Path...) },
					func(n *api.RuleNode) { n.Value++ }, func(n *api.RuleNode) { n.Value-- }, func(n *api.RuleNode) { n.Value = 0 }, func(n *api.RuleNode) { n.Value = api.List },
					func(n *api.RuleNode) { n.Text += "x" }, func(n *api.RuleNode) { n.Text += "\xff" }, func(n *api.RuleNode) { n.Text = "" }, func(n *api.RuleNode) { n.Text = "1" },
				} {
					spoilt := slices.Clone(r)
					change(&spoilt[i])
					if seed > 0 {
						change(&spoilt[(i+seed)%len(r)])
					}
					holdRule(t, spoilt)
					holdHolds(t, spoilt, value(t, `{"a":1,"b":2,"é":["x"]}`))
				}
				holdRule(t, r[:i])
				holdRule(t, r[i:])
				holdRule(t, slices.Delete(slices.Clone(r), i, i+1))
				holdRule(t, slices.Insert(slices.Clone(r), i, has("z")))
				holdRule(t, slices.Insert(slices.Clone(r), i, r[i]))
			}
		}
	}
}
