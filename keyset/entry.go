package keyset

import (
	"slices"

	"signet/api"
	"signet/json"
)

// reading: a value of a set's list; wrong, once a member has been met that is not of the kind that it must be.
type reading struct {
	value []api.Node
	wrong bool
}

// entry: false, if the value is no key. All reasons for that have one code, so that their order is not to be seen.
func entry(value []api.Node) (api.Entry, bool) {
	r := reading{value: value}
	kty, hasKty := r.text("kty")
	x := api.Entry{Value: value, Kty: typeOf(kty)}
	x.Kid, x.HasKid = r.text("kid")
	x.Use, x.HasUse = r.text("use")
	x.Alg, x.HasAlg = r.text("alg")
	x.Ops, x.HasOps = r.texts("key_ops")
	if !hasKty || r.wrong {
		return api.Entry{}, false
	}
	return x, true
}

// text: a member that must be a string; false, if it is not there.
func (r *reading) text(name string) (string, bool) {
	at := json.Member(r.value, 0, name)
	if at < 0 {
		return "", false
	}
	r.want(at, api.String)
	return r.value[at].Text, true
}

// texts: a member that must be a list of strings, none of them twice; false, if it is not there.
func (r *reading) texts(name string) ([]string, bool) {
	at := json.Member(r.value, 0, name)
	if at < 0 {
		return nil, false
	}
	r.want(at, api.List)
	var texts []string
	for _, kid := range json.Kids(r.value, at) {
		r.want(kid, api.String)
		texts = append(texts, r.value[kid].Text)
	}
	if anyTwice(texts) {
		r.wrong = true
	}
	return texts, true
}

func (r *reading) want(at int, kind api.Kind) {
	if r.value[at].Kind != kind {
		r.wrong = true
	}
}

// anyTwice sorts, since a set may have tens of thousands of them: too many to hold each against each.
func anyTwice(texts []string) bool {
	sorted := slices.Clone(texts)
	slices.Sort(sorted)
	return len(slices.Compact(sorted)) < len(texts)
}
