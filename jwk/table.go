package jwk

import "signet/api"

// keyType: what the objects of one type of keys have.
type keyType struct {
	kty     api.Kty
	name    string
	curves  []curveName // none: the type has no crv
	private []string
	members []member // the required ones, beside kty and crv
}

type curveName struct {
	crv  api.Crv
	name string
}

// member: one whose string is bytes, and which part of a key they are.
type member struct {
	name string
	lay  func(k *api.Key, b []byte)
	of   func(k api.Key) []byte
}

// keyTypes makes the table anew: one that has functions in it cannot stand at package level.
func keyTypes() []keyType {
	secret := member{"k", func(k *api.Key, b []byte) { k.Secret = b }, func(k api.Key) []byte { return k.Secret }}
	n := member{"n", func(k *api.Key, b []byte) { k.N = b }, func(k api.Key) []byte { return k.N }}
	e := member{"e", func(k *api.Key, b []byte) { k.E = b }, func(k api.Key) []byte { return k.E }}
	x := member{"x", func(k *api.Key, b []byte) { k.X = b }, func(k api.Key) []byte { return k.X }}
	y := member{"y", func(k *api.Key, b []byte) { k.Y = b }, func(k api.Key) []byte { return k.Y }}
	private := []string{"d", "p", "q", "dp", "dq", "qi", "oth"}
	return []keyType{
		{kty: api.Oct, name: "oct", members: []member{secret}},
		{kty: api.RSA, name: "RSA", private: private, members: []member{n, e}},
		{kty: api.EC, name: "EC", curves: []curveName{{api.P256, "P-256"}, {api.P384, "P-384"}}, private: private, members: []member{x, y}},
		{kty: api.OKP, name: "OKP", curves: []curveName{{api.Ed25519, "Ed25519"}}, private: private, members: []member{x}},
	}
}
