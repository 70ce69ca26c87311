package jws_test

import (
	"bytes"
	"slices"
	"strings"
	"testing"

	"signet/api"
	"signet/ed"
	"signet/jws"
	"signet/nat"
)

const signed = "eyJhbGciOiJIUzI1NiJ9.e30"

// Every algorithm with every type and curve; whatever else stands in the key does not count.
func TestFits(t *testing.T) {
	t.Parallel()
	many := []int{-1 << 63, -2, -1, 0, 1, 2, 3, 4, 5, 6, 1 << 32, 1<<32 + 1, 1<<63 - 1}
	for _, a := range allAlgs() {
		took := 0
		for _, kty := range many {
			for _, crv := range many {
				k := api.Key{Kty: api.Kty(kty), Crv: api.Crv(crv)}
				fits := holdFits(t, a, k)
				if fits {
					took++
				}
				for _, s := range signers() {
					other := copied(s.key)
					other.Kty, other.Crv = k.Kty, k.Crv
					if holdFits(t, a, other) != fits {
						t.Fatalf("18.4: Fits(%d, %s) hangs on more than type and curve", int(a), told(other))
					}
				}
			}
		}
		want := 0
		if c, ok := rowOf(a); ok && c.crv == api.NoCrv {
			want = len(many)
		} else if ok {
			want = 1
		}
		if took != want {
			t.Fatalf("18.4: %d pairs of type and curve go with %d, want %d", took, int(a), want)
		}
	}
}

// Each algorithm's own signature holds, for its own text, under its own key alone.
func TestHolds(t *testing.T) {
	t.Parallel()
	for _, c := range rows {
		own := signerFor(c.alg)
		sig := own.sign(c.alg, signed)
		mustCheck(t, "the signature", api.OK, c.alg, own.key, signed, sig)
		for _, text := range []string{"", signed + ".", signed[1:], signed[:len(signed)-1], signed + "A", strings.ToUpper(signed), signed + "\x00"} {
			mustCheck(t, "another text", api.ErrSignature, c.alg, own.key, text, sig)
		}
		for _, other := range [][]byte{nil, {}, {0}, sig[1:], sig[:len(sig)-1], append(bytes.Clone(sig), 0), append([]byte{0}, sig...), slices.Concat(sig, sig), make([]byte, len(sig)), bytes.Repeat([]byte{255}, len(sig))} {
			mustCheck(t, "another signature", api.ErrSignature, c.alg, own.key, signed, other)
		}
		for _, at := range []int{0, 1, len(sig) / 2, len(sig) - 2, len(sig) - 1} {
			mustCheck(t, "a byte changed", api.ErrSignature, c.alg, own.key, signed, changed(sig, at, 1))
		}
	}
}

// A signature by one algorithm, checked by another, of every key.
func TestNoOther(t *testing.T) {
	t.Parallel()
	for _, c := range rows {
		sig := signerFor(c.alg).sign(c.alg, signed)
		for _, s := range signers() {
			for _, a := range allAlgs() {
				want := api.ErrSignature
				switch {
				case slices.Contains(noAlgs, a):
					want = api.ErrAlg
				case !wantFits(a, s.key):
					want = api.ErrBinding
				case a == c.alg:
					want = api.OK
				}
				mustCheck(t, "signed by another algorithm", want, a, s.key, signed, sig)
			}
		}
	}
}

// 18.8: never OK for a key of another type or curve, were all the parts of the right one in it.
func TestDisguised(t *testing.T) {
	t.Parallel()
	for _, c := range rows {
		own := signerFor(c.alg)
		sig := own.sign(c.alg, signed)
		for kty := api.Kty(-1); kty < 7; kty++ {
			for crv := api.Crv(-1); crv < 6; crv++ {
				k := copied(own.key)
				k.Kty, k.Crv = kty, crv
				want := api.ErrKey
				if !wantFits(c.alg, k) {
					want = api.ErrBinding
				} else if crv == own.key.Crv {
					want = api.OK
				}
				mustCheck(t, "another type or curve", want, c.alg, k, signed, sig)
			}
		}
	}
}

// The bytes of a public key are no secret: neither as they are, nor in the part of a secret.
func TestPublicAsSecret(t *testing.T) {
	t.Parallel()
	for _, s := range signers()[1:] {
		for _, c := range rows[:3] {
			for _, part := range [][]byte{s.key.N, s.key.X, s.key.Y, slices.Concat(s.key.X, s.key.Y)} {
				if len(part) < c.size {
					continue
				}
				tag, _ := holdTag(t, c.alg, part, signed)
				mustCheck(t, "its bytes as a secret", api.ErrBinding, c.alg, s.key, signed, tag)
				k := copied(s.key)
				k.Secret = part
				mustCheck(t, "with them as its secret", api.ErrBinding, c.alg, k, signed, tag)
				k.Kty = api.Oct
				mustCheck(t, "called a secret", api.ErrKey, c.alg, k, signed, tag)
				mustCheck(t, "a secret indeed", api.OK, c.alg, api.Key{Kty: api.Oct, Secret: part}, signed, tag)
			}
		}
	}
}

// The codes in their order: each fault with all those behind it.
func TestOrder(t *testing.T) {
	t.Parallel()
	for _, c := range rows {
		own := signerFor(c.alg)
		sig := own.sign(c.alg, signed)
		for _, wrong := range withMore(own.key, []byte{1}) {
			mustCheck(t, "a part too many", api.ErrKey, c.alg, wrong, signed, sig)
			mustCheck(t, "a part too many, no signature", api.ErrKey, c.alg, wrong, signed, nil)
			other := wrong
			other.Kty = wrong.Kty%4 + 1
			mustCheck(t, "another type, a part too many, no signature", api.ErrBinding, c.alg, other, signed, nil)
			mustCheck(t, "no algorithm, a part too many, no signature", api.ErrAlg, api.NoAlg, wrong, signed, nil)
			mustCheck(t, "no algorithm, another type, a part too many, no signature", api.ErrAlg, -c.alg, other, signed, nil)
		}
		bare := api.Key{Kty: own.key.Kty, Crv: own.key.Crv}
		mustCheck(t, "no part", api.ErrKey, c.alg, bare, signed, sig)
		mustCheck(t, "no part, no signature", api.ErrKey, c.alg, bare, "", nil)
		mustCheck(t, "no key", api.ErrBinding, c.alg, api.Key{}, "", nil)
	}
}

// Keys that are not right: one part of each spoilt in turn.
func TestWrongKeys(t *testing.T) {
	t.Parallel()
	for _, c := range rows[3:] {
		own := signerFor(c.alg)
		sig := own.sign(c.alg, signed)
		for i := range 4 {
			for _, spoil := range []func([]byte) []byte{
				func([]byte) []byte { return nil },
				func(b []byte) []byte { return b[1:] },
				func(b []byte) []byte { return append([]byte{0}, b...) },
				func(b []byte) []byte { return append(bytes.Clone(b), 0) },
				func(b []byte) []byte { return changed(b, len(b)-1, 1) },
				func(b []byte) []byte { return bytes.Repeat([]byte{255}, len(b)+1) },
			} {
				k := copied(own.key)
				part := []*[]byte{&k.N, &k.E, &k.X, &k.Y}[i]
				if len(*part) == 0 {
					continue
				}
				*part = spoil(*part)
				if code := holdCheck(t, c.alg, k, signed, sig); code == api.OK {
					t.Fatalf("18.5: Check(%d, %s) is OK, of a key of which a part is spoilt", int(c.alg), told(k))
				}
			}
		}
	}
}

// A secret as long as the hash is taken, one of a byte less is not, though it be right; likewise MaxSecret.
func TestSecrets(t *testing.T) {
	t.Parallel()
	for _, c := range rows[:3] {
		for _, n := range []int{0, 1, 31, 32, 33, 47, 48, 49, 63, 64, 65, 127, 128, 129, 4095, 4096, 4097, 5000} {
			s := octSigner(n)
			sig := s.sign(c.alg, signed)
			want, nothing := api.OK, api.ErrSignature
			if n < c.size || n > 4096 {
				want, nothing = api.ErrKey, api.ErrKey
			}
			mustCheck(t, "a secret", want, c.alg, s.key, signed, sig)
			mustCheck(t, "a secret, no tag", nothing, c.alg, s.key, signed, nil)
			mustTag(t, want, c.alg, s.key.Secret, signed)
			tag, _ := holdTag(t, c.alg, s.key.Secret, signed)
			if want == api.OK && !bytes.Equal(tag, sig) {
				t.Fatalf("18.6: Tag(%d, %d bytes) = %x, the library: %x", int(c.alg), n, tag, sig)
			}
		}
	}
}

// 18.8: no other sig than the tag: none of another bit, of another length, of another algorithm, of a nearly alike secret.
func TestTagAlone(t *testing.T) {
	t.Parallel()
	for _, c := range rows[:3] {
		k := octKey(64)
		tag, _ := holdTag(t, c.alg, k.Secret, signed)
		for bit := range 8 * len(tag) {
			mustCheck(t, "a bit changed", api.ErrSignature, c.alg, k, signed, changed(tag, bit/8, 1<<(bit%8)))
		}
		for n := range len(tag) {
			mustCheck(t, "its beginning", api.ErrSignature, c.alg, k, signed, tag[:n])
			mustCheck(t, "with bytes behind it", api.ErrSignature, c.alg, k, signed, append(bytes.Clone(tag), tag[:n+1]...))
		}
		for at := range k.Secret {
			mustCheck(t, "another secret", api.ErrSignature, c.alg, api.Key{Kty: api.Oct, Secret: changed(k.Secret, at, 128)}, signed, tag)
		}
		for _, other := range rows[:3] {
			if sig, _ := holdTag(t, other.alg, k.Secret, signed); other != c {
				mustCheck(t, "another algorithm's", api.ErrSignature, c.alg, k, signed, sig)
				mustCheck(t, "another algorithm's, cut", api.ErrSignature, c.alg, k, signed, sig[:min(len(sig), c.size)])
			}
		}
	}
}

// Tag makes no signature but HMAC's; that is told ahead of the secret.
func TestTagAlgs(t *testing.T) {
	t.Parallel()
	for _, a := range allAlgs() {
		for _, n := range []int{0, 31, 32, 48, 64, 4096, 4097} {
			want := api.ErrAlg
			if c, ok := rowOf(a); ok && c.kty == api.Oct {
				want = api.OK
				if n < c.size || n > 4096 {
					want = api.ErrKey
				}
			}
			for _, text := range []string{"", signed, ".", "\xff", strings.Repeat("a", 1<<16+1)} {
				mustTag(t, want, a, octKey(n).Secret, text)
			}
		}
	}
}

// A text of any length and of any bytes is signed and checked.
func TestTexts(t *testing.T) {
	t.Parallel()
	for _, text := range []string{"", ".", "..", "\x00", "\xff\xfe", "é", strings.Repeat("a", 1<<16), strings.Repeat("b", 1<<16+1)} {
		for _, c := range rows {
			own := signerFor(c.alg)
			mustCheck(t, "a text", api.OK, c.alg, own.key, text, own.sign(c.alg, text))
		}
	}
}

// The hash of ES256 and of ES384 is that of the name: a signature over another sum does not hold.
func TestCurvesHash(t *testing.T) {
	t.Parallel()
	for _, c := range []struct{ alg, other api.Alg }{{api.ES256, api.RS384}, {api.ES256, api.RS512}, {api.ES384, api.RS256}, {api.ES384, api.RS512}} {
		own := signerFor(c.alg)
		mustCheck(t, "signed over another hash", api.ErrSignature, c.alg, own.key, signed, own.sign(c.other, signed))
	}
}

// ECDSA's second signature (r, n - s) is taken; Ed25519's S + L is not.
func TestSecondSignatures(t *testing.T) {
	t.Parallel()
	for _, c := range rows[9:11] {
		own := signerFor(c.alg)
		sig := own.sign(c.alg, signed)
		n := theirCurve(c.crv).Params().N
		s := number(sig[c.size:])
		twin := slices.Concat(sig[:c.size], s.Sub(n, s).FillBytes(make([]byte, c.size)))
		mustCheck(t, "r and n - s", api.OK, c.alg, own.key, signed, twin)
	}
	own := signerFor(api.EdDSA)
	sig := own.sign(api.EdDSA, signed)
	s := bytes.Clone(sig[32:])
	slices.Reverse(s)
	above, ok := nat.Fixed(nat.Add(nat.FromBytes(s), ed.Order()), 32)
	slices.Reverse(above)
	if !ok {
		t.Fatal("S + L has more than 32 bytes")
	}
	mustCheck(t, "S + L", api.ErrSignature, api.EdDSA, own.key, signed, slices.Concat(sig[:32], above))
}

// A key of small order is a key like others: a signature of it holds for many texts, but none without bytes.
func TestSmallOrder(t *testing.T) {
	t.Parallel()
	neutral := append([]byte{1}, make([]byte, 31)...)
	k := api.Key{Kty: api.OKP, Crv: api.Ed25519, X: neutral}
	sig := slices.Concat(neutral, make([]byte, 32))
	for _, text := range []string{"", "a", signed} {
		mustCheck(t, "the neutral point", api.OK, api.EdDSA, k, text, sig)
		mustCheck(t, "the neutral point, no signature", api.ErrSignature, api.EdDSA, k, text, nil)
	}
	if jws.Fits(api.HS256, k) {
		t.Fatal("18.4: it fits HS256")
	}
}
