package rules

import (
	"math"
	"strconv"
	"strings"

	"signet/api"
	"signet/decimal"
	"signet/json"
)

// truth: is a well shaped rule true of an object? In post order the operands' answers are there when a node asks for them.
func truth(r []api.RuleNode, v []api.Node) bool {
	truths := make([]bool, len(r))
	for i, n := range r {
		switch n.Op {
		case api.RuleAnd:
			truths[i] = truths[n.A] && truths[n.B]
		case api.RuleOr:
			truths[i] = truths[n.A] || truths[n.B]
		case api.RuleNot:
			truths[i] = !truths[n.A]
		default:
			truths[i] = isTrue(n, v)
		}
	}
	return truths[len(r)-1]
}

// isTrue: of a node without operands.
func isTrue(n api.RuleNode, v []api.Node) bool {
	at := lead(n.Path, v)
	if at == none {
		return false
	}
	switch n.Op {
	case api.RuleHas:
		return true
	case api.RuleContains:
		return contains(v, at, n.Text)
	}
	return v[at].Kind == n.Value && compares(n.Op, v[at], n.Text)
}

// lead: where the path leads from the object on; none, if nowhere.
func lead(path []string, v []api.Node) int {
	at := 0
	for _, part := range path {
		if at = step(v, at, part); at == none {
			return none
		}
	}
	return at
}

// step: the place of the value that a part names in the one at the place.
func step(v []api.Node, at int, part string) int {
	if v[at].Kind != api.List {
		return json.Member(v, at, part)
	}
	place, err := strconv.Atoi(part)
	// A place that is no int is beyond every list.
	if !isPlace(part) || err != nil || place >= v[at].Kids {
		return none
	}
	return json.Kids(v, at)[place]
}

// contains: is the text a part of the string at the place, or a string of the list there?
func contains(v []api.Node, at int, text string) bool {
	if v[at].Kind == api.String {
		return strings.Contains(v[at].Text, text)
	}
	if v[at].Kind != api.List {
		return false
	}
	for _, kid := range json.Kids(v, at) {
		if v[kid].Kind == api.String && v[kid].Text == text {
			return true
		}
	}
	return false
}

// compares: of a value, and the text of another one of its kind.
func compares(op api.RuleOp, n api.Node, text string) bool {
	if n.Kind == api.Number {
		return comparesNumbers(op, float(n.Text), float(text))
	}
	// True, False and Null have no text, and so are the same.
	same := n.Text == text
	return op == api.RuleEqual && same || op == api.RuleUnequal && !same
}

func comparesNumbers(op api.RuleOp, x, y float32) bool {
	switch op {
	case api.RuleEqual:
		return x == y
	case api.RuleUnequal:
		return x != y
	case api.RuleLess:
		return x < y
	case api.RuleAtMost:
		return x <= y
	case api.RuleMore:
		return x > y
	case api.RuleAtLeast:
		return x >= y
	}
	return false
}

// float: the nearest float32 of a number's text.
func float(text string) float32 {
	bits, _ := decimal.Nearest(text)
	return math.Float32frombits(bits)
}
