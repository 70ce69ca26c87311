package jws

import (
	"signet/api"
	"signet/ecdsa"
	"signet/ed"
	"signet/hmac"
	"signet/pss"
	"signet/rsa1"
)

// family: the algorithms whose signatures one layer checks; they differ in the hash alone.
type family int

const (
	noFamily family = iota
	byHmac
	byRsa1
	byPss
	byEcdsa
	byEd
)

// familyOf: an algorithm's family and hash. Of what is no algorithm noFamily; EdDSA's hash is ed's own business.
func familyOf(a api.Alg) (family, api.Hash) {
	switch a {
	case api.HS256:
		return byHmac, api.SHA256
	case api.HS384:
		return byHmac, api.SHA384
	case api.HS512:
		return byHmac, api.SHA512
	case api.RS256:
		return byRsa1, api.SHA256
	case api.RS384:
		return byRsa1, api.SHA384
	case api.RS512:
		return byRsa1, api.SHA512
	case api.PS256:
		return byPss, api.SHA256
	case api.PS384:
		return byPss, api.SHA384
	case api.PS512:
		return byPss, api.SHA512
	case api.ES256:
		return byEcdsa, api.SHA256
	case api.ES384:
		return byEcdsa, api.SHA384
	case api.EdDSA:
		return byEd, 0
	}
	return noFamily, 0
}

// holds: is it a signature of the text? Of a family that is none nothing is.
func holds(f family, h api.Hash, k api.Key, text, sig []byte) (ok bool) {
	switch f {
	case byHmac:
		ok = hmac.Check(h, k.Secret, text, sig)
	case byRsa1:
		ok = rsa1.Verify(h, k.N, k.E, text, sig) == api.OK
	case byPss:
		ok = pss.Verify(h, k.N, k.E, text, sig) == api.OK
	case byEcdsa:
		ok = ecdsa.Verify(h, k.Crv, k.X, k.Y, text, sig) == api.OK
	case byEd:
		ok = ed.Verify(k.X, text, sig) == api.OK
	}
	return ok
}
