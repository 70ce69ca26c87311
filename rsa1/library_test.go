package rsa1_test

import (
	"crypto"
	"crypto/rsa"
	"encoding/base64"
	"math/rand"
	"testing"

	"signet/api"
)

var libraryHashes = map[api.Hash]crypto.Hash{api.SHA256: crypto.SHA256, api.SHA384: crypto.SHA384, api.SHA512: crypto.SHA512}

func libraryTakes(k signer, h api.Hash, message, sig []byte) bool {
	sum := libraryHashes[h].New()
	sum.Write(message)
	return rsa.VerifyPKCS1v15(&rsa.PublicKey{N: k.n, E: int(k.e.Int64())}, libraryHashes[h], sum.Sum(nil), sig) == nil
}

// What Go's own library takes is taken, and nothing else. (It takes no e of 2^31 or more.)
func TestLibrary(t *testing.T) {
	r := rand.New(rand.NewSource(7))
	for _, c := range []struct {
		digits int
		e      int64
	}{{2048, 65537}, {2048, 3}, {2053, 17}, {3072, 65537}, {4096, 1<<31 - 1}} {
		k := drawnSigner(r, c.digits, c.e)
		n, e := k.parts()
		for _, h := range hashes {
			message := drawnBytes(r, 50)
			encoding, _ := wantEncode(h, message, len(n))
			sig := k.sign(encoding)
			sigs := [][]byte{sig, sig[1:], append([]byte{0}, sig...), n, make([]byte, len(n)), changed(sig, 5, 4), changed(sig, len(sig)-1, 1), k.sign(changed(encoding, 40, 1)), k.sign(changed(encoding, len(n)-1, 0x80)), k.sign(changed(encoding, 1, 3))}
			for i, s := range sigs {
				want := api.ErrSignature
				if libraryTakes(k, h, message, s) {
					want = api.OK
				}
				if (want == api.OK) != (i == 0) {
					t.Fatalf("the library says %d of row %d", want, i)
				}
				mustVerify(t, "9.3", want, h, n, e, message, s)
			}
		}
	}
}

// The key and the text of RFC 7515, A.2. The signature was not copied from there: it was reckoned with math/big from that key's primes, so it bears no witness beside math/big's.
func TestKeyOfRfc7515(t *testing.T) {
	read := func(text string) []byte {
		b, err := base64.RawURLEncoding.DecodeString(text)
		if err != nil {
			t.Fatal(err)
		}
		return b
	}
	n := read("ofgWCuLjybRlzo0tZWJjNiuSfb4p4fAkd_wWJcyQoTbji9k0l8W26mPddxHmfHQp-Vaw-4qPCJrcS2mJPMEzP1Pt0Bm4d4QlL-yRT-SFd2lZS-pCgNMsD1W_YpRPEwOWvG6b32690r2jZ47soMZo9wGzjb_7OMg0LOL-bSf63kpaSHSXndS5z5rexMdbBYUsLA9e-KXBdQOS-UTo7WTBEMa2R2CapHg665xsmtdVMTBQY4uDZlxvb3qCo5ZwKh9kG4LT6_I5IhlJH7aGhyxXFvUK-DWNmoudF8NAco9_h9iaGNj8q2ethFkMLs91kzk2PAcDTW9gb54h4FRWyuXpoQ")
	message := []byte("eyJhbGciOiJSUzI1NiJ9.eyJpc3MiOiJqb2UiLA0KICJleHAiOjEzMDA4MTkzODAsDQogImh0dHA6Ly9leGFtcGxlLmNvbS9pc19yb290Ijp0cnVlfQ")
	sig := read("cC4hiUPoj9Eetdgtv3hF80EGrhuB__dzERat0XF9g2VtQgr9PJbu3XOiZj5RZmh7AAuHIm4Bh-0Qc_lF5YKt_O8W2Fp5jujGbds9uJdbF9CUAr7t1dnZcAcQjbKBYNX4BAynRFdiuB--f_nZLgrnbyTyWzO75vRK5h6xBArLIARNPvkSjtQBMHlb1L07Qe7K0GarZRmB_eSN9383LcOLn6_dO--xi12jzDwusC-eOkHWEsqtFZESc6BfI7noOPqvhJ1phCnvWh6IeYI2w9QOYEUipUTI8np6LbgGY9Fs98rqVt5AXLIhWkWywlVmtVrBp0igcN_IoypGlUPQGe77Rw")
	mustVerify(t, "9.3", api.OK, api.SHA256, n, usual, message, sig)
	for i := range sig {
		mustVerify(t, "9.3", api.ErrSignature, api.SHA256, n, usual, message, changed(sig, i, 1))
	}
	for i := range message {
		mustVerify(t, "9.3", api.ErrSignature, api.SHA256, n, usual, changed(message, i, 1), sig)
	}
}
