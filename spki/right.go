package spki

import (
	"signet/api"
	"signet/curve"
	"signet/ed"
	"signet/rsa1"
)

// right: what is wrong with a key's parts, if anything is.
func right(k api.Key) error {
	switch k.Kty {
	case api.Oct:
		return rightOct(k)
	case api.RSA:
		return rightRSA(k)
	case api.EC:
		return rightEC(k)
	case api.OKP:
		return rightOKP(k)
	}
	return notKey("a type that there is not")
}

func rightOct(k api.Key) error {
	if k.Crv != api.NoCrv || len(k.Secret) < api.MinSecret || len(k.Secret) > api.MaxSecret {
		return notKey("a curve, or a secret that is too short or too long")
	}
	return unused(k.N, k.E, k.X, k.Y)
}

func rightRSA(k api.Key) error {
	if k.Crv != api.NoCrv || rsa1.Key(k.N, k.E) != api.OK {
		return notKey("a curve, or numbers that are not RSA's")
	}
	return unused(k.Secret, k.X, k.Y)
}

// rightEC: Ed25519 is a curve too, but none that curve.Decode knows.
func rightEC(k api.Key) error {
	if _, code := curve.Decode(k.Crv, k.X, k.Y); code != api.OK {
		return notKey("no point of P-256 or P-384")
	}
	return unused(k.Secret, k.N, k.E)
}

func rightOKP(k api.Key) error {
	if _, code := ed.Decode(k.X); k.Crv != api.Ed25519 || code != api.OK {
		return notKey("another curve, or no point of Ed25519")
	}
	return unused(k.Secret, k.N, k.E, k.Y)
}

// unused: parts that a key's type does not use must be empty.
func unused(parts ...[]byte) error {
	for _, part := range parts {
		if len(part) > 0 {
			return notKey("a part that the type does not use")
		}
	}
	return nil
}
