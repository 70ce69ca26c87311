package serial

import (
	"strings"

	"signet/api"
	"signet/json"
)

// tokensOf: the compact tokens of a value; false, if it has neither of the forms.
func tokensOf(v []api.Node) ([]string, bool) {
	payload, ok := part(v, 0, "payload")
	if !ok {
		return nil, false
	}
	var tokens []string
	for _, at := range signers(v) {
		protected, hasProtected := part(v, at, "protected")
		signature, hasSignature := part(v, at, "signature")
		if !hasProtected || !hasSignature {
			return nil, false
		}
		tokens = append(tokens, protected+"."+payload+"."+signature)
	}
	return tokens, len(tokens) > 0
}

// signers: the places at which protected and signature must stand: the whole, if it has the three members of the flattened form; the objects of the list, if it has the two of the general one; else none. So many members and those that are asked for leave room for no other.
func signers(v []api.Node) []int {
	if v[0].Kids == 3 {
		return []int{0}
	}
	list := json.Member(v, 0, "signatures")
	if list < 0 || v[0].Kids != 2 || v[list].Kind != api.List || v[list].Kids > api.MaxSigs {
		return nil
	}
	places := json.Kids(v, list)
	for _, at := range places {
		if v[at].Kids != 2 {
			return nil
		}
	}
	return places
}

// part: a member of the object at the place; false, if it is not there, no string, or has a dot, with which its token would have other parts.
func part(v []api.Node, at int, name string) (string, bool) {
	at = json.Member(v, at, name)
	if at < 0 || v[at].Kind != api.String || strings.Contains(v[at].Text, ".") {
		return "", false
	}
	return v[at].Text, true
}
