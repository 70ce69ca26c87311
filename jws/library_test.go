package jws_test

import (
	"bytes"
	stdecdsa "crypto/ecdsa"
	"crypto/ed25519"
	"crypto/elliptic"
	stdhmac "crypto/hmac"
	"crypto/rsa"
	"encoding/base64"
	"math/big"
	"math/rand"
	"testing"

	"signet/api"
	"signet/jws"
)

func number(b []byte) *big.Int { return new(big.Int).SetBytes(b) }

func theirCurve(crv api.Crv) elliptic.Curve {
	if crv == api.P384 {
		return elliptic.P384()
	}
	return elliptic.P256()
}

// theyTake: what Go's own library says of a signature, under a key that is right and fits.
func theyTake(a api.Alg, k api.Key, text string, sig []byte) bool {
	switch {
	case k.Kty == api.Oct:
		m := stdhmac.New(theirHash(a).New, k.Secret)
		m.Write([]byte(text))
		return stdhmac.Equal(m.Sum(nil), sig)
	case k.Kty == api.OKP:
		return ed25519.Verify(k.X, []byte(text), sig)
	case k.Kty == api.EC:
		size := len(k.X)
		pub := &stdecdsa.PublicKey{Curve: theirCurve(k.Crv), X: number(k.X), Y: number(k.Y)}
		return len(sig) == 2*size && stdecdsa.Verify(pub, theirSum(a, text), number(sig[:size]), number(sig[size:]))
	}
	pub := &rsa.PublicKey{N: number(k.N), E: int(number(k.E).Int64())}
	if a >= api.PS256 {
		return rsa.VerifyPSS(pub, theirHash(a), theirSum(a, text), sig, &rsa.PSSOptions{SaltLength: rsa.PSSSaltLengthEqualsHash}) == nil
	}
	return rsa.VerifyPKCS1v15(pub, theirHash(a), theirSum(a, text), sig) == nil
}

// Signatures whole, cut, with bytes more, with one changed: the library says the same of them.
func TestAgainstLibrary(t *testing.T) {
	t.Parallel()
	r := rand.New(rand.NewSource(1))
	for _, c := range rows {
		own := signerFor(c.alg)
		for range 12 {
			text := drawnText(r)
			sig := own.sign(c.alg, text)
			spoilt := changed(sig, r.Intn(len(sig)), byte(1+r.Intn(255)))
			for _, s := range [][]byte{sig, spoilt, sig[:r.Intn(len(sig))], append(bytes.Clone(sig), 0)} {
				took := holdCheck(t, c.alg, own.key, text, s) == api.OK
				if took != theyTake(c.alg, own.key, text, s) {
					t.Fatalf("18.5: Check(%d, %s, %q, %x): %v, the library says otherwise", int(c.alg), told(own.key), text, s, took)
				}
			}
			mustCheck(t, "signed by the library", api.OK, c.alg, own.key, text, sig)
		}
	}
}

// RSA keys of more bits, such as the library makes.
func TestLongerRSA(t *testing.T) {
	t.Parallel()
	own := rsaSigner(3072)
	for _, c := range rows[3:9] {
		sig := own.sign(c.alg, signed)
		mustCheck(t, "3072 bits", api.OK, c.alg, own.key, signed, sig)
		mustCheck(t, "3072 bits, another key", api.ErrSignature, c.alg, signerFor(c.alg).key, signed, sig)
	}
}

// Salts of other lengths, which the library can make and take, are refused.
func TestOtherSalts(t *testing.T) {
	t.Parallel()
	for _, c := range rows[6:9] {
		for _, length := range []int{rsa.PSSSaltLengthAuto, 1, c.size - 1, c.size + 1} {
			key, sig := saltedSignature(c.alg, signed, length)
			mustCheck(t, "a salt of another length", api.ErrSignature, c.alg, key, signed, sig)
		}
		key, sig := saltedSignature(c.alg, signed, c.size)
		mustCheck(t, "a salt of the hash's length", api.OK, c.alg, key, signed, sig)
	}
}

// The tokens of RFC 7515, A.1 to A.3, and of RFC 8037, A.4.
func TestRFCs(t *testing.T) {
	t.Parallel()
	const (
		joe = "eyJpc3MiOiJqb2UiLA0KICJleHAiOjEzMDA4MTkzODAsDQogImh0dHA6Ly9leGFtcGxlLmNvbS9pc19yb290Ijp0cnVlfQ"
		n   = "ofgWCuLjybRlzo0tZWJjNiuSfb4p4fAkd_wWJcyQoTbji9k0l8W26mPddxHmfHQp-Vaw-4qPCJrcS2mJPMEzP1Pt0Bm4d4QlL-yRT-SFd2lZS-pCgNMsD1W_YpRPEwOWvG6b32690r2jZ47soMZo9wGzjb_7OMg0LOL-bSf63kpaSHSXndS5z5rexMdbBYUsLA9e-KXBdQOS-UTo7WTBEMa2R2CapHg665xsmtdVMTBQY4uDZlxvb3qCo5ZwKh9kG4LT6_I5IhlJH7aGhyxXFvUK-DWNmoudF8NAco9_h9iaGNj8q2ethFkMLs91kzk2PAcDTW9gb54h4FRWyuXpoQ"
	)
	part := func(text string) []byte { return must(base64.RawURLEncoding.DecodeString(text)) }
	for _, c := range []struct {
		alg   api.Alg
		key   api.Key
		head  string
		token string
	}{
		{api.HS256, api.Key{Kty: api.Oct, Secret: part("AyM1SysPpbyDfgZld3umj1qzKObwVMkoqQ-EstJQLr_T-1qS0gZH75aKtMN3Yj0iPS4hcgUuTwjAzZr1Z9CAow")}, "{\"typ\":\"JWT\",\r\n \"alg\":\"HS256\"}", "eyJ0eXAiOiJKV1QiLA0KICJhbGciOiJIUzI1NiJ9." + joe + ".dBjftJeZ4CVP-mB92K27uhbUJU1p1r_wW1gFWFOEjXk"},
		{api.RS256, api.Key{Kty: api.RSA, N: part(n), E: []byte{1, 0, 1}}, `{"alg":"RS256"}`, "eyJhbGciOiJSUzI1NiJ9." + joe + ".cC4hiUPoj9Eetdgtv3hF80EGrhuB__dzERat0XF9g2VtQgr9PJbu3XOiZj5RZmh7AAuHIm4Bh-0Qc_lF5YKt_O8W2Fp5jujGbds9uJdbF9CUAr7t1dnZcAcQjbKBYNX4BAynRFdiuB--f_nZLgrnbyTyWzO75vRK5h6xBArLIARNPvkSjtQBMHlb1L07Qe7K0GarZRmB_eSN9383LcOLn6_dO--xi12jzDwusC-eOkHWEsqtFZESc6BfI7noOPqvhJ1phCnvWh6IeYI2w9QOYEUipUTI8np6LbgGY9Fs98rqVt5AXLIhWkWywlVmtVrBp0igcN_IoypGlUPQGe77Rw"},
		{api.ES256, api.Key{Kty: api.EC, Crv: api.P256, X: part("f83OJ3D2xF1Bg8vub9tLe1gHMzV76e8Tus9uPHvRVEU"), Y: part("x_FEzRu9m36HLN_tue659LNpXW6pCyStikYjKIWI5a0")}, `{"alg":"ES256"}`, "eyJhbGciOiJFUzI1NiJ9." + joe + ".DtEhU3ljbEg8L38VWAfUAqOyKAM6-Xx-F4GawxaepmXFCgfTjDxw5djxLa8ISlSApmWQxfKTUJqPP3-Kg6NU1Q"},
		{api.EdDSA, api.Key{Kty: api.OKP, Crv: api.Ed25519, X: part("11qYAYKxCrfVS_7TyWQHOg7hcvPapiMlrwIaaPcHURo")}, `{"alg":"EdDSA"}`, "eyJhbGciOiJFZERTQSJ9.RXhhbXBsZSBvZiBFZDI1NTE5IHNpZ25pbmc.hgyY0il_MGCjP0JzlnLWG1PPOt7-09PGcvMg3AIbQR6dWbhijcNR4ki4iylGjg5BhVsPt9g7sVvpAr_MuM0KAg"},
	} {
		parts, code := holdDecode(t, c.token)
		if code != api.OK || string(parts[0]) != c.head {
			t.Fatalf("18.2: Decode(%q): %q, %d", c.token, parts[0], int(code))
		}
		head, pay, _, _ := jws.Split(c.token)
		mustCheck(t, "the RFC's", api.OK, c.alg, c.key, head+"."+pay, parts[2])
		mustCheck(t, "the RFC's, of another payload", api.ErrSignature, c.alg, c.key, head+"."+pay[1:], parts[2])
		for _, other := range rows {
			if other.alg != c.alg {
				if code := holdCheck(t, other.alg, c.key, head+"."+pay, parts[2]); code == api.OK {
					t.Fatalf("18.8: the RFC's token of algorithm %d is OK under %d", int(c.alg), int(other.alg))
				}
			}
		}
	}
}
