package json

import (
	"unicode/utf8"

	"signet/api"
	"signet/decimal"
)

// member: a name in the object that begins at a place.
type member struct {
	object int
	key    string
}

// names: how often each one has been met.
type names map[member]int

// first: a name is met; is it for the first time, in its object?
func (n names) first(object int, key string) bool {
	n[member{object, key}]++
	return n[member{object, key}] == 1
}

// numberNode: the node of a number's text, without its name.
func numberNode(text string) api.Node {
	whole, isWhole := decimal.Whole(text)
	return api.Node{Kind: api.Number, Text: text, Whole: isWhole, Int: whole}
}

// none: the place of the object or list around a value that stands in none.
const none = -1

// shape: nodes, held against what the chapter asks of them.
type shape struct {
	nodes []api.Node
	met   names
}

// value: the place behind the value that begins at the place, in a list or object, with so many open ones around it; -1, if it is not well shaped.
func (s shape) value(at, around, depth int) int {
	if at >= len(s.nodes) || !wellMade(s.nodes[at], depth) || !s.named(at, around) {
		return -1
	}
	behind := at + 1
	for range s.nodes[at].Kids {
		behind = s.value(behind, at, depth+1)
		if behind < 0 {
			return -1
		}
	}
	return behind
}

// named: has the value at the place a name of its own, in an object, or none, elsewhere?
func (s shape) named(at, around int) bool {
	key := s.nodes[at].Key
	if around == none || s.nodes[around].Kind == api.List {
		return key == ""
	}
	return utf8.ValidString(key) && s.met.first(around, key)
}

// wellMade: has the node what its kind has, and nothing else, its name left aside?
func wellMade(n api.Node, depth int) bool {
	want := api.Node{Kind: n.Kind}
	fits := true
	switch n.Kind {
	case api.Null, api.False, api.True:
	case api.Number:
		want = numberNode(n.Text)
		fits = decimal.Valid(n.Text)
	case api.String:
		want.Text = n.Text
		fits = utf8.ValidString(n.Text)
	case api.List, api.Object:
		want.Kids = n.Kids
		fits = n.Kids >= 0 && depth < api.MaxDepth
	default:
		return false
	}
	want.Key = n.Key
	return fits && n == want
}
