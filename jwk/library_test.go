package jwk_test

import (
	"crypto/ecdh"
	"crypto/ed25519"
	"crypto/elliptic"
	"encoding/json"
	"math/big"
	"math/rand"
	"testing"

	"signet/api"
	"signet/jwk"
	"signet/spki"
)

// Keys and thumbprints that others have published.
func TestPublished(t *testing.T) {
	t.Parallel()
	for _, c := range []struct {
		what, text, sum string
		code            api.Errno
	}{
		{"RFC 7517, A.1", `{"kty":"EC","crv":"P-256","x":"MKBCTNIcKUSDii11ySs3526iDZ8AiTo7Tu6KPAqv7D4","y":"4Etl6SRW2YiLUrN5vfvVHuhp7x8PxltmWWlbbM4IFyM","use":"enc","kid":"1"}`, "", api.OK},
		{"RFC 7517, A.2", `{"kty":"EC","crv":"P-256","x":"MKBCTNIcKUSDii11ySs3526iDZ8AiTo7Tu6KPAqv7D4","y":"4Etl6SRW2YiLUrN5vfvVHuhp7x8PxltmWWlbbM4IFyM","d":"870MB6gfuTJ4HtUnUvYMyJpr5eUZNP4Bk43bVdj3eAE","use":"enc","kid":"1"}`, "", api.ErrSecret},
		{"RFC 7517, A.3", `{"kty":"oct","alg":"A128KW","k":"GawgguFyGrWKav7AX4VKUg"}`, "", api.ErrKey},
		{"RFC 7515, A.1", `{"kty":"oct","k":"AyM1SysPpbyDfgZld3umj1qzKObwVMkoqQ-EstJQLr_T-1qS0gZH75aKtMN3Yj0iPS4hcgUuTwjAzZr1Z9CAow","kid":"HMAC key used in JWS spec Appendix A.1 example"}`, "", api.OK},
		{"RFC 7515, A.3", `{"kty":"EC","crv":"P-256","x":"f83OJ3D2xF1Bg8vub9tLe1gHMzV76e8Tus9uPHvRVEU","y":"x_FEzRu9m36HLN_tue659LNpXW6pCyStikYjKIWI5a0"}`, "", api.OK},
		{"RFC 7638, 3.1", `{"kty":"RSA","n":"` + rfc7638 + `","e":"AQAB","alg":"RS256","kid":"2011-04-29"}`, "NzbLsXh8uDCcd-6MNwXF4W_7noWXFZAfHkxZsRGC9Xs", api.OK},
		{"RFC 8037, A.1", `{"kty":"OKP","crv":"Ed25519","d":"nWGxne_9WmC6hEr0kuwsxERJxWl7MmkZcDusAxyuf2A","x":"11qYAYKxCrfVS_7TyWQHOg7hcvPapiMlrwIaaPcHURo"}`, "", api.ErrSecret},
		{"RFC 8037, A.3", `{"kty":"OKP","crv":"Ed25519","x":"11qYAYKxCrfVS_7TyWQHOg7hcvPapiMlrwIaaPcHURo"}`, "kPrK_qmxVWaYVA9wwBF6Iuo3vVzz7TxHCTwXBygrS4k", api.OK},
		{"RFC 8037, A.6", `{"kty":"OKP","crv":"X25519","x":"3p7bfXt9wbTTW2HC7OQ1Nz-DQ8hbeGdNrfx-FG-IK08"}`, "", api.ErrKty},
	} {
		mustRead(t, c.what, c.code, c.text)
		k, _ := jwk.Read(value(t, c.text), 0)
		if sum, code := jwk.Thumbprint(k); c.sum != "" && (code != api.OK || sum != c.sum) {
			t.Fatalf("15.3: %s: %s, %d", c.what, sum, int(code))
		}
	}
}

// libraryObject: an object as the library writes it, its members in the order of their names.
func libraryObject(t *testing.T, members map[string]string) string {
	t.Helper()
	b, err := json.Marshal(members)
	if err != nil {
		t.Fatal(err)
	}
	return string(b)
}

// Keys that the library makes, written by the library, and read here.
func TestLibrary(t *testing.T) {
	t.Parallel()
	r := rand.New(rand.NewSource(5))
	hold := func(k api.Key, members map[string]string) {
		t.Helper()
		text := libraryObject(t, members)
		mustSay(t, "15.1: the library's", k, text)
		if got, code := jwk.Text(k); code != api.OK || got != text {
			t.Fatalf("15.2: Text(%s) = %q, %d, and the library writes %q", told(k), got, int(code), text)
		}
	}
	for range 60 {
		pub := ed25519.NewKeyFromSeed(drawnBytes(r, 32)).Public().(ed25519.PublicKey)
		hold(okpKey(pub), map[string]string{"kty": "OKP", "crv": "Ed25519", "x": signs(pub)})
		n := new(big.Int).SetBytes(drawnOdd(r, 2048+r.Intn(2049)))
		hold(rsaKey(n.Bytes(), []byte{1, 0, 1}), map[string]string{"kty": "RSA", "n": signs(n.Bytes()), "e": "AQAB"})
		secret := drawnBytes(r, 32+r.Intn(100))
		hold(octKey(secret), map[string]string{"kty": "oct", "k": signs(secret)})
		for _, c := range []struct {
			crv  api.Crv
			name string
			made ecdh.Curve
		}{{api.P256, "P-256", ecdh.P256()}, {api.P384, "P-384", ecdh.P384()}} {
			d := append([]byte{0}, drawnBytes(r, len(drawnEC(r, c.crv).X)-1)...)
			private, err := c.made.NewPrivateKey(d)
			if err != nil {
				t.Fatal(err)
			}
			b := private.PublicKey().Bytes()[1:]
			x, y := b[:len(b)/2], b[len(b)/2:]
			hold(api.Key{Kty: api.EC, Crv: c.crv, X: x, Y: y}, map[string]string{"kty": "EC", "crv": c.name, "x": signs(x), "y": signs(y)})
		}
	}
}

// Members as the library reads them: what is drawn is a key here just if the library finds its strings in it, and the point on the curve.
func TestLibraryReads(t *testing.T) {
	t.Parallel()
	r := rand.New(rand.NewSource(6))
	g := elliptic.P256()
	for range 300 {
		k := drawnEC(r, api.P256)
		text := respelled(r, k)
		var members map[string]any
		if err := json.Unmarshal([]byte(text), &members); err != nil {
			t.Fatal(err)
		}
		got, code := jwk.Read(value(t, text), 0)
		if code != api.OK || members["x"] != signs(got.X) || members["y"] != signs(got.Y) || members["crv"] != "P-256" || members["kty"] != "EC" {
			t.Fatalf("15.1: %s: %s, %d", text, told(got), int(code))
		}
		if !g.IsOnCurve(new(big.Int).SetBytes(got.X), new(big.Int).SetBytes(got.Y)) || spki.Check(got) != api.OK {
			t.Fatalf("15.1: %s: %s is no point", text, told(got))
		}
	}
}
