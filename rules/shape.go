package rules

import (
	"unicode/utf8"

	"signet/api"
	"signet/decimal"
)

// wellMade: has the node what its kind has, and nothing else, its operands left aside?
func wellMade(n api.RuleNode) bool {
	switch n.Op {
	case api.RuleAnd, api.RuleOr, api.RuleNot:
		return len(n.Path) == 0 && isBare(n)
	case api.RuleHas:
		return isPath(n.Path) && isBare(n)
	case api.RuleContains:
		return isPath(n.Path) && n.Value == api.String && isValue(n)
	case api.RuleEqual, api.RuleUnequal, api.RuleLess, api.RuleAtMost, api.RuleMore, api.RuleAtLeast:
		return isPath(n.Path) && isValue(n)
	}
	return false
}

// isBare: has the node neither value nor text?
func isBare(n api.RuleNode) bool { return n.Value == 0 && n.Text == "" }

func isPath(parts []string) bool {
	for _, part := range parts {
		if !utf8.ValidString(part) {
			return false
		}
	}
	return len(parts) > 0
}

// isValue: is there something to compare with, and does its text fit?
func isValue(n api.RuleNode) bool {
	switch n.Value {
	case api.Number:
		return decimal.Valid(n.Text)
	case api.String:
		return utf8.ValidString(n.Text)
	case api.True, api.False, api.Null:
		return n.Text == ""
	}
	return false
}

// operands: how many a node has.
func operands(op api.RuleOp) int {
	switch op {
	case api.RuleAnd, api.RuleOr:
		return 2
	case api.RuleNot:
		return 1
	}
	return 0
}

// isTree: are the nodes one tree in post order, with the operands' places? No call a node: a list may nest deeper than calls should.
func isTree(r []api.RuleNode) bool {
	var firsts []int // where each tree begins that is no operand yet
	for i, n := range r {
		a, b, first := none, none, i
		count := operands(n.Op)
		if count > len(firsts) {
			return false
		}
		// Of two, B ends just ahead of the node, and A just ahead of where B begins.
		if count == 2 {
			b, first = i-1, firsts[len(firsts)-1]
			firsts = firsts[:len(firsts)-1]
		}
		if count > 0 {
			a, first = first-1, firsts[len(firsts)-1]
			firsts = firsts[:len(firsts)-1]
		}
		if n.A != a || n.B != b {
			return false
		}
		firsts = append(firsts, first)
	}
	return len(firsts) == 1
}
