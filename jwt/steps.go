package jwt

import (
	"signet/api"
	"signet/b64"
	"signet/claims"
	"signet/header"
	"signet/jwk"
	"signet/jws"
	"signet/keyset"
)

// judged: the claims, by all steps but the clock's. No step reads what a later one reads, so each part is decoded where it is wanted.
func judged(token, keys string, p api.Policy) (api.Claims, error) {
	if err := bounded(token, keys, p); err != nil {
		return api.Claims{}, err
	}
	head, pay, sig, code := jws.Split(token)
	if code != api.OK {
		return api.Claims{}, refused("the token", code)
	}
	h, err := headed(head, p)
	if err != nil {
		return api.Claims{}, err
	}
	k, err := keyFor(h, keys)
	if err != nil {
		return api.Claims{}, err
	}
	if err := signed(h.Alg, k, head+"."+pay, sig); err != nil {
		return api.Claims{}, err
	}
	return said(pay, p)
}

// bounded: steps 1 and 2. The key set's length counts ahead of the token's dots, so it is asked here.
func bounded(token, keys string, p api.Policy) error {
	switch {
	case p.Leeway < 0 || p.Leeway > api.MaxLeeway:
		return refused("the policy", api.ErrPolicy)
	case len(token) > api.MaxToken:
		return refused("the token", api.ErrLarge)
	case len(keys) > api.MaxKeys:
		return refused("the key set", api.ErrLarge)
	}
	return nil
}

// headed: step 4.
func headed(head string, p api.Policy) (api.Header, error) {
	text, err := bytesOf("the header", head)
	if err != nil {
		return api.Header{}, err
	}
	h, code := header.Parse(string(text))
	if code != api.OK {
		return api.Header{}, refused("the header", code)
	}
	return h, refused("the header, by the policy", header.Allow(p, h))
}

// keyFor: steps 5 to 8. Of the set's other keys nothing is read but what step 5 asks.
func keyFor(h api.Header, keys string) (api.Key, error) {
	l, code := keyset.Parse(keys)
	if code != api.OK {
		return api.Key{}, refused("the key set", code)
	}
	entry, code := keyset.Find(l, h.Kid)
	if code != api.OK {
		return api.Key{}, refused("the kid", code)
	}
	if code := keyset.Bind(entry, h.Alg); code != api.OK {
		return api.Key{}, refused("the key's binding", code)
	}
	k, code := jwk.Read(entry.Value, 0)
	return k, refused("the key", code)
}

// signed: step 9.
func signed(a api.Alg, k api.Key, signing, sig string) error {
	b, err := bytesOf("the signature", sig)
	if err != nil {
		return err
	}
	return refused("the signature", jws.Check(a, k, signing, b))
}

// said: step 10.
func said(pay string, p api.Policy) (api.Claims, error) {
	text, err := bytesOf("the payload", pay)
	if err != nil {
		return api.Claims{}, err
	}
	c, code := claims.Parse(string(text))
	if code != api.OK {
		return api.Claims{}, refused("the payload", code)
	}
	return c, refused("the claims, by the policy", claims.Check(c, p))
}

// bytesOf: those that a part of the token spells.
func bytesOf(what, part string) ([]byte, error) {
	b, code, _ := b64.Decode(part)
	return b, refused(what, code)
}
