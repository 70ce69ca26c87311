package jwk

import (
	"signet/api"
	"signet/b64"
	"signet/json"
	"signet/spki"
)

// object: a place in a well shaped value; if none stands there, it has no member.
type object struct {
	value []api.Node
	at    int
}

// key asks in the order in which refusals are told: every member must be there ahead of the first one's bytes.
func (o object) key() (api.Key, api.Errno) {
	t, code := o.keyType()
	if code != api.OK {
		return api.Key{}, code
	}
	crv, code := o.curve(t)
	if code != api.OK {
		return api.Key{}, code
	}
	if o.hasAny(t.private) {
		return api.Key{}, api.ErrSecret
	}
	texts, ok := o.texts(t.members)
	if !ok {
		return api.Key{}, api.ErrMember
	}
	k := api.Key{Kty: t.kty, Crv: crv}
	if !layAll(&k, t.members, texts) || spki.Check(k) != api.OK {
		return api.Key{}, api.ErrKey
	}
	return k, api.OK
}

func (o object) keyType() (keyType, api.Errno) {
	name, ok := o.text("kty")
	if !ok {
		return keyType{}, api.ErrMember
	}
	for _, t := range keyTypes() {
		if t.name == name {
			return t, api.OK
		}
	}
	return keyType{}, api.ErrKty
}

// curve: NoCrv of a type that has none, whatever crv is then.
func (o object) curve(t keyType) (api.Crv, api.Errno) {
	if len(t.curves) == 0 {
		return api.NoCrv, api.OK
	}
	name, ok := o.text("crv")
	if !ok {
		return api.NoCrv, api.ErrMember
	}
	for _, c := range t.curves {
		if c.name == name {
			return c.crv, api.OK
		}
	}
	return api.NoCrv, api.ErrKty
}

func (o object) hasAny(names []string) bool {
	for _, name := range names {
		if json.Member(o.value, o.at, name) >= 0 {
			return true
		}
	}
	return false
}

// texts: one a member; false, if one of them is not there, or no string.
func (o object) texts(members []member) ([]string, bool) {
	var texts []string
	for _, m := range members {
		text, ok := o.text(m.name)
		if !ok {
			return nil, false
		}
		texts = append(texts, text)
	}
	return texts, true
}

func (o object) text(name string) (string, bool) {
	place := json.Member(o.value, o.at, name)
	if place < 0 || o.value[place].Kind != api.String {
		return "", false
	}
	return o.value[place].Text, true
}

// layAll: false, if one of the texts is no base64url.
func layAll(k *api.Key, members []member, texts []string) bool {
	for i, m := range members {
		b, code, _ := b64.Decode(texts[i])
		if code != api.OK {
			return false
		}
		m.lay(k, b)
	}
	return true
}
