package rules_test

import (
	"fmt"
	"slices"
	"testing"

	"signet/api"
	"signet/json"
	"signet/rules"
)

// Asking, with every answer held against the chapter's words, P4, and what follows from the answer.

func same(a, b []api.RuleNode) bool {
	return slices.EqualFunc(a, b, func(x, y api.RuleNode) bool {
		return x.Op == y.Op && x.A == y.A && x.B == y.B && x.Value == y.Value && x.Text == y.Text && slices.Equal(x.Path, y.Path)
	})
}

func short(x any) string { return fmt.Sprintf("%.300q", fmt.Sprintf("%+v", x)) }

// holdParse: 25.1, and of a text that is taken 25.2 and 25.5.
func holdParse(t *testing.T, text string) ([]api.RuleNode, api.Errno) {
	t.Helper()
	want, f := wantParse(text)
	got, code, at := rules.Parse(text)
	if code != f.code || at != f.at || !same(got, want) {
		t.Fatalf("25.1: Parse(%.200q) = %s, %d at %d, want %s, %d at %d", text, short(got), int(code), at, short(want), int(f.code), f.at)
	}
	if code != api.OK && got != nil {
		t.Fatalf("P4: Parse(%.200q) refuses, and answers %s", text, short(got))
	}
	if code == api.OK {
		canonical, open := wantText(got)
		if !rules.Shaped(got) || open > api.MaxDepth {
			t.Fatalf("25.5: Parse(%.200q) = %s", text, short(got))
		}
		if _, e := holdRule(t, got); (e == api.OK) != (len(canonical) <= api.MaxRule) {
			t.Fatalf("25.5: Print of the rule of %.200q: %d", text, int(e))
		}
	}
	return got, code
}

// holdRule: 25.2, and of a rule that is printed 25.5.
func holdRule(t *testing.T, r []api.RuleNode) (string, api.Errno) {
	t.Helper()
	if got, want := rules.Shaped(r), wantShaped(r); got != want {
		t.Fatalf("25.2: Shaped(%s) = %v", short(r), got)
	}
	want, wantCode := wantPrint(r)
	got, code := rules.Print(r)
	if got != want || code != wantCode {
		t.Fatalf("25.2: Print(%s) = %q, %d, want %q, %d", short(r), got, int(code), want, int(wantCode))
	}
	if code == api.OK {
		if again, e, at := rules.Parse(got); e != api.OK || at != 0 || !same(again, r) {
			t.Fatalf("25.5: Parse(%q) = %s, %d at %d, want %s", got, short(again), int(e), at, short(r))
		}
	}
	return got, code
}

// holdHolds: 25.3.
func holdHolds(t *testing.T, r []api.RuleNode, v []api.Node) (bool, api.Errno) {
	t.Helper()
	want, wantCode := wantHolds(r, v)
	got, code := rules.Holds(r, v)
	if got != want || code != wantCode {
		t.Fatalf("25.3: Holds(%s, %s) = %v, %d, want %v, %d", short(r), short(v), got, int(code), want, int(wantCode))
	}
	return got, code
}

// holdAllow: 25.4.
func holdAllow(t *testing.T, text string, v []api.Node) api.Errno {
	t.Helper()
	want, got := wantAllow(text, v), rules.Allow(text, v)
	if got != want {
		t.Fatalf("25.4: Allow(%.200q, %s) = %d, want %d", text, short(v), int(got), int(want))
	}
	return got
}

// rule: of a text that is one.
func rule(t *testing.T, text string) []api.RuleNode {
	t.Helper()
	r, code := holdParse(t, text)
	if code != api.OK {
		t.Fatalf("25.1: Parse(%.200q): %d", text, int(code))
	}
	return r
}

// value: of a JSON text.
func value(t *testing.T, text string) []api.Node {
	t.Helper()
	v, code, at := json.Parse(text)
	if code != api.OK {
		t.Fatalf("%.200q: %d at %d", text, int(code), at)
	}
	return v
}

func mustFault(t *testing.T, text string, code api.Errno, at int) {
	t.Helper()
	if r, e, place := rules.Parse(text); r != nil || e != code || place != at {
		t.Errorf("25.1: Parse(%.200q) = %s, %d at %d, want %d at %d", text, short(r), int(e), place, int(code), at)
	}
	holdParse(t, text)
}

func mustPrint(t *testing.T, text, want string) {
	t.Helper()
	if got, code := rules.Print(rule(t, text)); got != want || code != api.OK {
		t.Errorf("25.2: Print of %.200q = %.200q, %d, want %.200q", text, got, int(code), want)
	}
}

func mustAllow(t *testing.T, want bool, text string, v []api.Node) {
	t.Helper()
	code := api.ErrDenied
	if want {
		code = api.OK
	}
	if got := holdAllow(t, text, v); got != code {
		t.Errorf("25.4: Allow(%.200q, %s) = %d, want %d", text, short(v), int(got), int(code))
	}
}

func leaf(op api.RuleOp, value api.Kind, text string, path ...string) api.RuleNode {
	return api.RuleNode{Op: op, A: -1, B: -1, Path: path, Value: value, Text: text}
}

func has(path ...string) api.RuleNode { return leaf(api.RuleHas, 0, "", path...) }

// joined: two rules made one.
func joined(op api.RuleOp, a, b []api.RuleNode) []api.RuleNode {
	out := slices.Clone(a)
	for _, n := range b {
		if n.A >= 0 {
			n.A += len(a)
		}
		if n.B >= 0 {
			n.B += len(a)
		}
		out = append(out, n)
	}
	return append(out, api.RuleNode{Op: op, A: len(a) - 1, B: len(out) - 1})
}

// not: the rule's opposite.
func not(r []api.RuleNode) []api.RuleNode {
	return append(slices.Clone(r), api.RuleNode{Op: api.RuleNot, A: len(r) - 1, B: -1})
}
