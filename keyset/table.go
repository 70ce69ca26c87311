package keyset

import (
	"signet/api"
	"signet/json"
)

// algorithm: its name, and what a key must be to go with it.
type algorithm struct {
	name string
	kty  api.Kty
	crv  string // the curve's name, where the type has curves
}

// algorithms: in the order of their numbers. NoAlg's name is the empty one, so that every number within has a row.
var algorithms = [...]algorithm{
	api.NoAlg: {"", api.NoKty, ""},
	api.HS256: {"HS256", api.Oct, ""},
	api.HS384: {"HS384", api.Oct, ""},
	api.HS512: {"HS512", api.Oct, ""},
	api.RS256: {"RS256", api.RSA, ""},
	api.RS384: {"RS384", api.RSA, ""},
	api.RS512: {"RS512", api.RSA, ""},
	api.PS256: {"PS256", api.RSA, ""},
	api.PS384: {"PS384", api.RSA, ""},
	api.PS512: {"PS512", api.RSA, ""},
	api.ES256: {"ES256", api.EC, "P-256"},
	api.ES384: {"ES384", api.EC, "P-384"},
	api.EdDSA: {"EdDSA", api.OKP, "Ed25519"},
}

// types: the names of keys' types, in the order of their numbers.
var types = [...]string{
	api.NoKty: "",
	api.Oct:   "oct",
	api.RSA:   "RSA",
	api.EC:    "EC",
	api.OKP:   "OKP",
}

func typeOf(name string) api.Kty {
	for kty, known := range types {
		if known == name {
			return api.Kty(kty)
		}
	}
	return api.NoKty
}

// fits: is the key of the algorithm's type, and on its curve?
func (a algorithm) fits(x api.Entry) bool {
	if x.Kty != a.kty {
		return false
	}
	return a.crv == "" || says(x.Value, "crv", a.crv)
}

// says: is the value an object with that member, and that a string of that text?
func says(value []api.Node, name, text string) bool {
	// An entry need not be Parse's, and Member's answer can be relied on of a well shaped value alone.
	if !json.Shaped(value) {
		return false
	}
	at := json.Member(value, 0, name)
	return at >= 0 && value[at].Kind == api.String && value[at].Text == text
}
