package signet

import (
	"signet/api"
	"signet/json"
)

// word: what a line's word wants behind it, and what it does.
type word struct {
	wants string // a sign for each value, as the document's table has them: S a string, N a whole number
	gated bool   // it is nothing without a gate
	does  func(r *run, values []api.Node)
}

// wordOf: the word of that name, if there is one.
func wordOf(name string) (word, bool) {
	switch name {
	case "policy":
		return word{wants: "S", does: (*run).setPolicy}, true
	case "verify":
		return word{wants: "SSN", does: (*run).verify}, true
	case "judge":
		return word{wants: "SS", does: (*run).judge}, true
	case "thumb":
		return word{wants: "S", does: (*run).thumb}, true
	case "pem":
		return word{wants: "SS", does: (*run).pem}, true
	case "key":
		return word{wants: "S", does: (*run).key}, true
	case "sum":
		return word{wants: "NS", does: (*run).sum}, true
	case "rule":
		return word{wants: "SS", does: (*run).rule}, true
	case "serial":
		return word{wants: "SSNN", does: (*run).serial}, true
	case "open":
		return word{wants: "S", does: (*run).open}, true
	case "rotate":
		return word{wants: "SNN", gated: true, does: (*run).rotate}, true
	case "take":
		return word{wants: "SN", gated: true, does: (*run).take}, true
	case "len":
		return word{wants: "", gated: true, does: (*run).len}, true
	}
	return word{}, false
}

// fits: are the values, whatever stands in them too, what the word wants? A list or an object is wanted by none, so what stands in one never comes to a value's place.
func (w word) fits(values []api.Node) bool {
	if len(values) != len(w.wants) {
		return false
	}
	for i, n := range values {
		if w.wants[i] == 'S' && n.Kind != api.String || w.wants[i] == 'N' && !n.Whole {
			return false
		}
	}
	return true
}

// read: a line's word, and the nodes behind it; none, if the line is no list that begins with a string.
func read(line string) (string, []api.Node, bool) {
	v, code, _ := json.Parse(line)
	if code != api.OK || v[0].Kind != api.List || v[0].Kids == 0 || v[1].Kind != api.String {
		return "", nil, false
	}
	return v[1].Text, v[2:], true
}
