package rules

import (
	"signet/api"
	"signet/json"
)

// writer: a rule's text that grows as far as it may.
type writer struct {
	rule    []api.RuleNode
	text    []byte
	open    int // brackets and nots
	refused bool
}

// put: what would be too long is not laid out: nodes may say far more than a text may hold.
func (w *writer) put(piece string) {
	if len(w.text)+len(piece) > api.MaxRule {
		w.refused = true
	}
	if !w.refused {
		w.text = append(w.text, piece...)
	}
}

// begin puts a bracket or a not, which is open from here on.
func (w *writer) begin(piece string) {
	if w.open == api.MaxDepth {
		w.refused = true
	}
	w.open++
	w.put(piece)
}

// node puts the tree whose root is at the place.
func (w *writer) node(at int) {
	switch n := w.rule[at]; n.Op {
	case api.RuleOr:
		w.joined(n, orWord)
	case api.RuleAnd:
		w.joined(n, andWord)
	case api.RuleNot:
		w.begin(spelled[notWord] + " ")
		w.operand(n.A, tightness(n.Op))
		w.open--
	case api.RuleHas:
		w.put(spelled[hasWord] + " ")
		w.path(n.Path)
	default:
		w.path(n.Path)
		w.put(" " + spelled[relation(n.Op)] + " ")
		w.value(n)
	}
}

// joined puts two operands. The right one must hold together more tightly than the node, lest it be read as the left one's neighbour.
func (w *writer) joined(n api.RuleNode, joint kind) {
	w.operand(n.A, tightness(n.Op))
	w.put(" " + spelled[joint] + " ")
	w.operand(n.B, tightness(n.Op)+1)
}

// operand puts an operand, in brackets if it holds together less tightly than it must.
func (w *writer) operand(at, least int) {
	if tightness(w.rule[at].Op) >= least {
		w.node(at)
		return
	}
	w.begin(spelled[opening])
	w.node(at)
	w.put(spelled[closing])
	w.open--
}

// tightness: how tightly a node's words hold together, where others stand beside them.
func tightness(op api.RuleOp) int {
	switch op {
	case api.RuleOr:
		return 0
	case api.RuleAnd:
		return 1
	}
	return 2
}

// relation: the word between a path and what it is held against.
func relation(op api.RuleOp) kind {
	if op == api.RuleContains {
		return containsWord
	}
	return equalSign + kind(op-api.RuleEqual)
}

func (w *writer) path(parts []string) {
	for i, part := range parts {
		if i > 0 {
			w.put(spelled[dot])
		}
		if isName(part) || i > 0 && isPlace(part) {
			w.put(part)
		} else {
			w.quote(part)
		}
	}
}

func (w *writer) value(n api.RuleNode) {
	switch n.Value {
	case api.Number:
		w.put(n.Text)
	case api.String:
		w.quote(n.Text)
	case api.True:
		w.put(spelled[trueWord])
	case api.False:
		w.put(spelled[falseWord])
	case api.Null:
		w.put(spelled[nullWord])
	}
}

// quote puts a string. One that json.Print finds too long is too long for a rule all the more.
func (w *writer) quote(text string) {
	piece, code := json.Print([]api.Node{{Kind: api.String, Text: text}})
	if code != api.OK {
		w.refused = true
	}
	w.put(piece)
}
