package signet

import (
	"signet/api"
	"signet/json"
)

// policyOf: what an object says, if it has no other members than a policy's, each of its kind.
func policyOf(v []api.Node) (api.Policy, api.Errno) {
	var p api.Policy
	if v[0].Kind != api.Object {
		return api.Policy{}, api.ErrPolicy
	}
	for _, at := range json.Kids(v, 0) {
		if !lay(&p, v, at) {
			return api.Policy{}, api.ErrPolicy
		}
	}
	return p, api.OK
}

// lay: a member's value into the policy's field of its name; is there one, and is the value of its kind?
func lay(p *api.Policy, v []api.Node, at int) bool {
	ok := false
	switch v[at].Key {
	case "algs":
		p.Algs, ok = textsAt(v, at)
	case "need":
		p.Need, ok = textsAt(v, at)
	case "iss":
		p.Iss, p.HasIss = textOf(v[at])
		ok = p.HasIss
	case "aud":
		p.Aud, p.HasAud = textOf(v[at])
		ok = p.HasAud
	case "typ":
		p.Typ, p.HasTyp = textOf(v[at])
		ok = p.HasTyp
	case "leeway":
		p.Leeway, ok = leewayOf(v[at])
	}
	return ok
}

func textOf(n api.Node) (string, bool) {
	if n.Kind != api.String {
		return "", false
	}
	return n.Text, true
}

// textsAt: the strings of a list that holds nothing else.
func textsAt(v []api.Node, at int) ([]string, bool) {
	if v[at].Kind != api.List {
		return nil, false
	}
	var texts []string
	for _, kid := range json.Kids(v, at) {
		text, ok := textOf(v[kid])
		if !ok {
			return nil, false
		}
		texts = append(texts, text)
	}
	return texts, true
}

func leewayOf(n api.Node) (int64, bool) {
	if !n.Whole || n.Int < 0 || n.Int > api.MaxLeeway {
		return 0, false
	}
	return n.Int, true
}
