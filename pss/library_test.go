package pss_test

import (
	"crypto"
	"crypto/rsa"
	"encoding/base64"
	"math/rand"
	"testing"

	"signet/api"
)

var libraryHashes = map[api.Hash]crypto.Hash{api.SHA256: crypto.SHA256, api.SHA384: crypto.SHA384, api.SHA512: crypto.SHA512}

func libraryTakes(k signer, h api.Hash, message, sig []byte) bool {
	key := &rsa.PublicKey{N: k.n, E: int(k.e.Int64())}
	return rsa.VerifyPSS(key, libraryHashes[h], sum(h, message), sig, &rsa.PSSOptions{SaltLength: rsa.PSSSaltLengthEqualsHash}) == nil
}

// What Go's own library takes is taken, and nothing else. (It takes no e of 2^31 or more.)
func TestLibrary(t *testing.T) {
	r := rand.New(rand.NewSource(7))
	for _, c := range []struct {
		digits int
		e      int64
	}{{2048, 65537}, {2048, 3}, {2049, 65537}, {2053, 17}, {2057, 3}, {3072, 65537}, {4096, 1<<31 - 1}} {
		k := drawnSigner(r, c.digits, c.e)
		n, e := k.parts()
		bits := c.digits - 1
		for _, h := range hashes {
			message := drawnBytes(r, 50)
			em := encoded(t, h, message, drawnBytes(r, sumLen(h)), bits)
			sig := k.sign(number(em))
			last := len(em) - 1
			sigs := [][]byte{sig, k.sign(number(encoded(t, h, message, saltFor(h, 5), bits))),
				sig[1:], append([]byte{0}, sig...), n, make([]byte, len(n)), changed(sig, 5, 4), changed(sig, len(sig)-1, 1),
				k.sign(number(changed(em, 40, 1))), k.sign(number(changed(em, last, 0x80))), k.sign(number(changed(em, last-1, 3))),
				k.sign(number(encoded(t, h, message, nil, bits))), k.sign(number(encoded(t, h, message, drawnBytes(r, sumLen(h)-1), bits))), k.sign(number(encoded(t, h, message, drawnBytes(r, sumLen(h)+1), bits)))}
			for i, s := range sigs {
				want := api.ErrSignature
				if libraryTakes(k, h, message, s) {
					want = api.OK
				}
				if (want == api.OK) != (i < 2) {
					t.Fatalf("the library says %d of row %d", want, i)
				}
				mustVerify(t, "10.4", want, h, n, e, message, s)
			}
		}
	}
}

// The key, the text and the signature of RFC 7520, 4.2. They were written down from memory, but bear witness: nobody here has made that signature, and it holds by Go's own library too.
func TestSignatureOfRfc7520(t *testing.T) {
	read := func(text string) []byte {
		b, err := base64.RawURLEncoding.DecodeString(text)
		if err != nil {
			t.Fatal(err)
		}
		return b
	}
	n := read("n4EPtAOCc9AlkeQHPzHStgAbgs7bTZLwUBZdR8_KuKPEHLd4rHVTeT-O-XV2jRojdNhxJWTDvNd7nqQ0VEiZQHz_AJmSCpMaJMRBSFKrKb2wqVwGU_NsYOYL-QtiWN2lbzcEe6XC0dApr5ydQLrHqkHHig3RBordaZ6Aj-oBHqFEHYpPe7Tpe-OfVfHd1E6cS6M1FZcD1NNLYD5lFHpPI9bTwJlsde3uhGqC0ZCuEHg8lhzwOHrtIQbS0FVbb9k3-tVTU4fg_3L_vniUFAKwuCLqKnS2BYwdq_mzSnbLY7h_qixoR7jig3__kRhuaxwUkRz5iaiQkqgc5gHdrNP5zw")
	message := []byte("eyJhbGciOiJQUzM4NCIsImtpZCI6ImJpbGJvLmJhZ2dpbnNAaG9iYml0b24uZXhhbXBsZSJ9.SXTigJlzIGEgZGFuZ2Vyb3VzIGJ1c2luZXNzLCBGcm9kbywgZ29pbmcgb3V0IHlvdXIgZG9vci4gWW91IHN0ZXAgb250byB0aGUgcm9hZCwgYW5kIGlmIHlvdSBkb24ndCBrZWVwIHlvdXIgZmVldCwgdGhlcmXigJlzIG5vIGtub3dpbmcgd2hlcmUgeW91IG1pZ2h0IGJlIHN3ZXB0IG9mZiB0by4")
	sig := read("cu22eBqkYDKgIlTpzDXGvaFfz6WGoz7fUDcfT0kkOy42miAh2qyBzk1xEsnk2IpN6-tPid6VrklHkqsGqDqHCdP6O8TTB5dDDItllVo6_1OLPpcbUrhiUSMxbbXUvdvWXzg-UD8biiReQFlfz28zGWVsdiNAUf8ZnyPEgVFn442ZdNqiVJRmBqrYRXe8P_ijQ7p8Vdz0TTrxUeT3lm8d9shnr2lfJT8ImUjvAA2Xez2Mlp8cBE5awDzT0qI0n6uiP1aCN_2_jLAeQTlqRHtfa64QQSUmFAAjVKPbByi7xho0uTOcbH510a6GYmJUAfmWjwZ6oD4ifKo8DYM-X72Eaw")
	if !libraryTakes(signer{n: number(n), e: number(usual)}, api.SHA384, message, sig) {
		t.Fatal("the library does not take it")
	}
	mustVerify(t, "10.4", api.OK, api.SHA384, n, usual, message, sig)
	mustVerify(t, "10.4", api.ErrSignature, api.SHA256, n, usual, message, sig)
	mustVerify(t, "10.4", api.ErrSignature, api.SHA512, n, usual, message, sig)
	for i := range sig {
		mustVerify(t, "10.4", api.ErrSignature, api.SHA384, n, usual, message, changed(sig, i, 1))
	}
	for i := range message {
		mustVerify(t, "10.4", api.ErrSignature, api.SHA384, n, usual, changed(message, i, 1), sig)
	}
}
