package rules

import (
	"strings"

	"signet/api"
	"signet/decimal"
	"signet/json"
)

// fault: why a text is no rule, and where. A reader panics with it, so that no way back through what is open has to ask for it.
type fault struct {
	code  api.Errno
	place int
}

const none = -1 // the place of an operand that there is not

// reader: a text, read up to a word.
type reader struct {
	text  string
	at    int    // where the word begins
	word  string // as far as wordOf tells it
	kind  kind   // of the word
	open  int    // brackets and nots
	nodes []api.RuleNode
}

// wrong: the word cannot stand there.
func (r *reader) wrong() fault { return fault{api.ErrRule, r.at} }

// next goes on to the word behind.
func (r *reader) next() {
	r.at += len(r.word)
	r.at += len(row(r.text[r.at:], blanks))
	r.kind, r.word = wordOf(r.text[r.at:])
}

// pass: a word of the kind must stand here.
func (r *reader) pass(k kind) {
	if r.kind != k {
		panic(r.wrong())
	}
	r.next()
}

func (r *reader) whole() []api.RuleNode {
	r.next()
	r.rule()
	if r.kind != theEnd {
		panic(r.wrong())
	}
	return r.nodes
}

func (r *reader) rule() { r.joined(orWord, api.RuleOr, r.conjunction) }

func (r *reader) conjunction() { r.joined(andWord, api.RuleAnd, r.atom) }

// joined reads a part, and others behind it, as long as the joint stands between.
func (r *reader) joined(joint kind, op api.RuleOp, part func()) {
	part()
	for r.kind == joint {
		left := r.last()
		r.next()
		part()
		r.add(api.RuleNode{Op: op, A: left, B: r.last()})
	}
}

// last: the place of the root of what was read last.
func (r *reader) last() int { return len(r.nodes) - 1 }

func (r *reader) add(n api.RuleNode) { r.nodes = append(r.nodes, n) }

func (r *reader) atom() {
	switch r.kind {
	case notWord:
		r.begin()
		r.atom()
		r.add(api.RuleNode{Op: api.RuleNot, A: r.last(), B: none})
		r.open--
	case opening:
		r.begin()
		r.rule()
		r.pass(closing)
		r.open--
	case hasWord:
		r.next()
		r.add(api.RuleNode{Op: api.RuleHas, A: none, B: none, Path: r.path()})
	default:
		r.test()
	}
}

// begin passes a bracket or a not by, which is open from here on.
func (r *reader) begin() {
	if r.open == api.MaxDepth {
		panic(fault{api.ErrDeep, r.at})
	}
	r.open++
	r.next()
}

// test reads a path, and what it is held against.
func (r *reader) test() {
	n := api.RuleNode{A: none, B: none, Path: r.path()}
	switch k := r.kind; {
	case k == containsWord:
		r.next()
		n.Op, n.Value, n.Text = api.RuleContains, api.String, r.said()
	case equalSign <= k && k <= atLeastSign:
		r.next()
		n.Op = api.RuleEqual + api.RuleOp(k-equalSign)
		n.Value, n.Text = r.value()
	default:
		panic(r.wrong())
	}
	r.add(n)
}

func (r *reader) path() []string {
	if r.kind == figures {
		panic(r.wrong())
	}
	parts := []string{r.part()}
	for r.kind == dot {
		r.next()
		parts = append(parts, r.part())
	}
	return parts
}

func (r *reader) part() string {
	switch r.kind {
	case quoted:
		return r.said()
	case figures:
		r.word = row(r.text[r.at:], digits)
		if !isPlace(r.word) {
			panic(r.wrong())
		}
		return r.plain()
	case name:
		return r.plain()
	}
	panic(r.wrong())
}

// value: what a comparison compares with: its kind and text.
func (r *reader) value() (api.Kind, string) {
	k := api.Null
	switch r.kind {
	case quoted:
		return api.String, r.said()
	case figures:
		return api.Number, r.number()
	case trueWord:
		k = api.True
	case falseWord:
		k = api.False
	case nullWord:
	default:
		panic(r.wrong())
	}
	r.next()
	return k, ""
}

func (r *reader) number() string {
	r.word = row(r.text[r.at:], numberBytes)
	if !decimal.Valid(r.word) {
		panic(r.wrong())
	}
	return r.plain()
}

// plain: the word as it is written; a copy, since a piece of the text would keep all of it.
func (r *reader) plain() string {
	word := strings.Clone(r.word)
	r.next()
	return word
}

// said: what the word, which must be a string, says.
func (r *reader) said() string {
	if r.kind != quoted {
		panic(r.wrong())
	}
	v, code, _ := json.Parse(r.word)
	if code != api.OK {
		panic(r.wrong())
	}
	r.next()
	return v[0].Text
}
