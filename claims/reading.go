package claims

import (
	"signet/api"
	"signet/json"
)

// fits: is the claim at the place of the kind that its name wants? Names that are not registered want none.
func fits(v []api.Node, at int) bool {
	switch v[at].Key {
	case "aud":
		if v[at].Kind == api.List {
			return allTexts(v, at)
		}
		// One audience may stand without a list, and is then a text like the others.
		fallthrough
	case "iss":
		fallthrough
	case "sub":
		fallthrough
	case "jti":
		return v[at].Kind == api.String
	case "exp":
		fallthrough
	case "nbf":
		fallthrough
	case "iat":
		return v[at].Whole
	}
	return true
}

func allTexts(v []api.Node, at int) bool {
	for _, kid := range json.Kids(v, at) {
		if v[kid].Kind != api.String {
			return false
		}
	}
	return true
}

// said: the claims of an object whose registered ones all fit.
func said(v []api.Node) api.Claims {
	c := api.Claims{Value: v}
	c.Iss, c.HasIss = text(v, "iss")
	c.Sub, c.HasSub = text(v, "sub")
	c.Aud, c.HasAud = texts(v, "aud")
	c.Jti, c.HasJti = text(v, "jti")
	c.Exp = moment(v, "exp")
	c.Nbf = moment(v, "nbf")
	c.Iat = moment(v, "iat")
	return c
}

// text: what a string says; false, if it is not there.
func text(v []api.Node, name string) (string, bool) {
	at := json.Member(v, 0, name)
	if at < 0 {
		return "", false
	}
	return v[at].Text, true
}

// texts: what a string says, or those of a list; false, if it is not there.
func texts(v []api.Node, name string) ([]string, bool) {
	at := json.Member(v, 0, name)
	if at < 0 {
		return nil, false
	}
	if v[at].Kind == api.String {
		return []string{v[at].Text}, true
	}
	var l []string
	for _, kid := range json.Kids(v, at) {
		l = append(l, v[kid].Text)
	}
	return l, true
}

func moment(v []api.Node, name string) api.Time {
	at := json.Member(v, 0, name)
	if at < 0 {
		return api.Time{}
	}
	return api.Time{Has: true, At: v[at].Int}
}

// names: those of an object's members, with their places; none of what is no object. They are gathered once, lest each needed name go through all members.
func names(v []api.Node) map[string]int {
	met := map[string]int{}
	// The claims may be made by hand, and of a value that is not well shaped json promises no places.
	if !json.Shaped(v) || v[0].Kind != api.Object {
		return met
	}
	for _, at := range json.Kids(v, 0) {
		met[v[at].Key] = at
	}
	return met
}
