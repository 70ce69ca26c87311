package header

import (
	"signet/api"
	"signet/json"
	"signet/keyset"
)

// reading: a header that is being read. The header itself does not tell whether its alg and kid have been met: both may be empty.
type reading struct {
	header         api.Header
	hasAlg, hasKid bool
}

// read: false, if the value is no header. All reasons for that have one code, so that their order is not to be seen.
func (r *reading) read(v []api.Node) bool {
	if v[0].Kind != api.Object {
		return false
	}
	members := r.members()
	for _, at := range json.Kids(v, 0) {
		set, known := members[v[at].Key]
		if !known || v[at].Kind != api.String {
			return false
		}
		set(v[at].Text)
	}
	return r.hasAlg && r.hasKid
}

// members: what each member sets, of this very header; no other one may stand in it. A table of functions cannot stand at package level.
func (r *reading) members() map[string]func(text string) {
	return map[string]func(text string){
		"alg": r.setAlg,
		"kid": r.setKid,
		"typ": r.setTyp,
	}
}

func (r *reading) setAlg(name string) { r.header.Alg, r.hasAlg = keyset.Of(name), true }

func (r *reading) setKid(kid string) { r.header.Kid, r.hasKid = kid, true }

func (r *reading) setTyp(typ string) { r.header.Typ, r.header.HasTyp = typ, true }
