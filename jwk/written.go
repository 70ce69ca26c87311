package jwk

import (
	"cmp"
	"slices"

	"signet/api"
	"signet/b64"
)

// written: the object of a right key, its members in the order of their names.
func written(k api.Key) []api.Node {
	var members []api.Node
	for _, t := range keyTypes() {
		if t.kty == k.Kty {
			members = t.said(k)
		}
	}
	slices.SortFunc(members, func(a, b api.Node) int { return cmp.Compare(a.Key, b.Key) })
	return slices.Concat([]api.Node{{Kind: api.Object, Kids: len(members)}}, members)
}

// said: kty, crv if the type has one, and the members that are bytes.
func (t keyType) said(k api.Key) []api.Node {
	members := []api.Node{text("kty", t.name)}
	for _, c := range t.curves {
		if c.crv == k.Crv {
			members = append(members, text("crv", c.name))
		}
	}
	for _, m := range t.members {
		members = append(members, text(m.name, b64.Encode(m.of(k))))
	}
	return members
}

func text(name, says string) api.Node {
	return api.Node{Kind: api.String, Key: name, Text: says}
}
