package spki_test

import (
	"bytes"
	"crypto"
	"crypto/ecdsa"
	"crypto/ed25519"
	"crypto/elliptic"
	"crypto/rsa"
	"crypto/x509"
	stdpem "encoding/pem"
	"math/big"
	"math/rand"
	"testing"

	"signet/api"
	"signet/spki"
)

// publicKey: what all public keys of Go's own library have.
type publicKey interface {
	Equal(other crypto.PublicKey) bool
}

// theirs: the key as the library has it.
func theirs(k api.Key) publicKey {
	switch {
	case k.Kty == api.RSA:
		return &rsa.PublicKey{N: number(k.N), E: int(number(k.E).Int64())}
	case k.Crv == api.P256:
		return &ecdsa.PublicKey{Curve: elliptic.P256(), X: number(k.X), Y: number(k.Y)}
	case k.Crv == api.P384:
		return &ecdsa.PublicKey{Curve: elliptic.P384(), X: number(k.X), Y: number(k.Y)}
	}
	return ed25519.PublicKey(k.X)
}

// holdRead: the library reads the bytes as the same key.
func holdRead(t *testing.T, b []byte, k api.Key) {
	t.Helper()
	read, err := x509.ParsePKIXPublicKey(b)
	if err != nil || !theirs(k).Equal(read) {
		t.Fatalf("14.3: %x is %s, the library: %v, %v", b, told(k), read, err)
	}
}

// holdLibrary: the library writes the key in the same bytes and the same text, and reads it as the same key.
func holdLibrary(t *testing.T, k api.Key) {
	t.Helper()
	want, err := x509.MarshalPKIXPublicKey(theirs(k))
	if err != nil {
		t.Fatal(err)
	}
	if got := printed(t, k); !bytes.Equal(got, want) {
		t.Fatalf("14.2: Print(%s) = %x, the library: %x", told(k), got, want)
	}
	if got, code := spki.Parse(want); code != api.OK || !same(got, k) {
		t.Fatalf("14.3: Parse(%x) = %s, %d, want %s", want, told(got), int(code), told(k))
	}
	text := string(stdpem.EncodeToMemory(&stdpem.Block{Type: "PUBLIC KEY", Bytes: want}))
	if got, code := spki.Pem(k); code != api.OK || got != text {
		t.Fatalf("14.4: Pem(%s) = %q, %d, the library: %q", told(k), got, int(code), text)
	}
	if got, code := spki.Unpem(text); code != api.OK || !same(got, k) {
		t.Fatalf("14.5: Unpem(%q) = %s, %d, want %s", text, told(got), int(code), told(k))
	}
	holdRead(t, want, k)
}

func TestAgainstLibrary(t *testing.T) {
	t.Parallel()
	r := rand.New(rand.NewSource(9))
	keys := some()
	for range 100 {
		keys = append(keys, drawnRSA(r, 2048+r.Intn(2049), 2+r.Intn(31)), drawnEC(r, api.P256), drawnEC(r, api.P384), drawnOKP(r))
	}
	for seed := range byte(50) {
		keys = append(keys, okpKey(ed25519.NewKeyFromSeed(bytes.Repeat([]byte{seed}, 32))[32:]))
	}
	for _, k := range keys {
		holdLibrary(t, k)
	}
}

// What is taken here the library takes too, and it says the same.
func TestTakenByLibrary(t *testing.T) {
	t.Parallel()
	r := rand.New(rand.NewSource(10))
	taken := 0
	for _, k := range kindRows() {
		whole := info(k.algorithm, k.key)
		for range 1500 {
			b := put(whole, r.Intn(len(whole)), byte(r.Intn(256)))
			key, code := spki.Parse(b)
			if code != api.OK {
				continue
			}
			taken++
			holdRead(t, b, key)
		}
	}
	if taken < 500 {
		t.Fatalf("only %d were taken", taken)
	}
}

// Texts that OpenSSL has written: of each kind of key, and of such as are none here.
const (
	opensslRSA = `-----BEGIN PUBLIC KEY-----
MIIBIjANBgkqhkiG9w0BAQEFAAOCAQ8AMIIBCgKCAQEAw3kbUAQfz9njDUkJTRoI
wXJOta1+s3zH1rn9MFZuokFx8gwgYlyM14f7VKFTaLtVzskqxr5W4YQJIFi8rXrD
HTw1rQ3vtPTFD13Iv0lVODWgDYz+5SxOOYVEAl2BPG/U7IWGEykBKdSEUS5pmX+J
/QaZ1P4W/0N5fPuvyLdGQK4OOCd0+vk2ie2MOU3+tYyI/D4R7Vfv7SKdhwQwZrxN
3lLiyAUr2bYAJYouKzX1SlBL/flGxl+c0DVC3Y5y2Pz9o/FBLApNAwDCQ5dKbwZL
NYaBKwS7guUtWY2EELwdMH7Ll+/IyWfVIBJiR8L+5YU7Qn6s9EIC17RBHpzuKCTs
QQIDAQAB
-----END PUBLIC KEY-----
`
	opensslP256 = `-----BEGIN PUBLIC KEY-----
MFkwEwYHKoZIzj0CAQYIKoZIzj0DAQcDQgAELnB2BcDJ917BdicuaT6ERpma+ZNI
4F9xWeVFfa24pOIRd4Tf1r1AwgHgW1D3jV3/ftaS1ofQs2L78BsJTXcQMw==
-----END PUBLIC KEY-----
`
	opensslP384 = `-----BEGIN PUBLIC KEY-----
MHYwEAYHKoZIzj0CAQYFK4EEACIDYgAE+2hHRsGrc8/76bMJ2x7TzecBcUZ/GGeM
ggbmSTXevT9pBoU0oqblP8nYsYrJZERh3bbo3Sr3vT3/eUoX5L7lklJ6LIPdG3ZB
6IycfUW/EKtC5PAnheAYJUVUQF/L2u1/
-----END PUBLIC KEY-----
`
	opensslEd = `-----BEGIN PUBLIC KEY-----
MCowBQYDK2VwAyEAeGCYMakjDsJ6qgK4ncpF78O7oK8kF/cFSxzZAFjtgug=
-----END PUBLIC KEY-----
`
	opensslCompressed = `-----BEGIN PUBLIC KEY-----
MDkwEwYHKoZIzj0CAQYIKoZIzj0DAQcDIgADef6yT7Ui7889fzoC9KIRftNOG3xS
Ml+vLY8diLqc4cQ=
-----END PUBLIC KEY-----
`
	opensslExplicit = `-----BEGIN PUBLIC KEY-----
MIIBSzCCAQMGByqGSM49AgEwgfcCAQEwLAYHKoZIzj0BAQIhAP////8AAAABAAAA
AAAAAAAAAAAA////////////////MFsEIP////8AAAABAAAAAAAAAAAAAAAA////
///////////8BCBaxjXYqjqT57PrvVV2mIa8ZR0GsMxTsPY7zjw+J9JgSwMVAMSd
NgiG5wSTamZ44ROdJreBn36QBEEEaxfR8uEsQkf4vOblY6RA8ncDfYEt6zOg9KE5
RdiYwpZP40Li/hp/m47n60p8D54WK84zV2sxXs7LtkBoN79R9QIhAP////8AAAAA
//////////+85vqtpxeehPO5ysL8YyVRAgEBA0IABEBOA7N6fb6c7Bsm+7Yt8Tc4
FrOFxCAxmwwIuWh7mI06nPs4MUM5BMtzQo/gJEgHk2n8aczYIwA/qGeI6GfldV8=
-----END PUBLIC KEY-----
`
	opensslP521 = `-----BEGIN PUBLIC KEY-----
MIGbMBAGByqGSM49AgEGBSuBBAAjA4GGAAQAi7kt53oj8bsIUQmjwEc2pcDM5ji1
vSKdz104tHhMSX/QJi/tgiOUqvdHoGqdKW3qWhrXVKPtmlvtGjiH03ug9gUAZ01M
79iL4NaHDjqolZZqebh1u5P2tDiNwaSmLPMH+ApVt8WIEydenyY49YMmypTW0aWB
coe3qC+zbylBiK7C7Dw=
-----END PUBLIC KEY-----
`
	opensslX25519 = `-----BEGIN PUBLIC KEY-----
MCowBQYDK2VuAyEAgO/yyvB5yEn0D4evLoO58R52B57CiSWF/V1h8EqhfUM=
-----END PUBLIC KEY-----
`
	opensslEd448 = `-----BEGIN PUBLIC KEY-----
MEMwBQYDK2VxAzoAxIsrVcEMnyEduzTJ93hxP7hhoBL2p4HWe+7ZxeDDwc9zVnL5
QXQLCBKtacaNkkrQ4uE6PpN+eYmA
-----END PUBLIC KEY-----
`
	opensslPSS = `-----BEGIN PUBLIC KEY-----
MIIBIDALBgkqhkiG9w0BAQoDggEPADCCAQoCggEBAOJC8F/KKsOieMX6Hj3Qffuc
KrcwiAuk6AHlhRrOW/u1YTc0dcbo05svvf87xkI6lGk9oRDdtKuShtPbRqml6Jxe
+IAXLUT+y3C6BkrxrFobKuyt3IDfqnwe13KX+iM2o4g9200yEf+rlxSxF/jZ4K19
LjuDq4UiR7QYtr34oR+IZ25TmrH8qcA1n1LsZvT9kgtn+Qo8mQJYC2PEBcNJIqB2
il/hnRL2Vj3lLZk7BpGhRIwZH1EQOYngtdfUV/uZNveWepeosBI/7IIa2TtUbPiv
jmTOArrp1LGTPhq5oanJxMbZC38RyRorrotYDxfAb2NNIIvDfCKqhrpV0QvUJ0sC
AwEAAQ==
-----END PUBLIC KEY-----
`
	opensslShort = `-----BEGIN PUBLIC KEY-----
MIGfMA0GCSqGSIb3DQEBAQUAA4GNADCBiQKBgQC2yPRXVD0VzbUkZuBWo6wK9bVH
rY4FbKCRKZ3OQ8vCwPWIpOQc8rGY/q419GcAZc47rpfRmeoSmc/QAIDvNIB9hRIs
vjVrInaVDMR0qGrDtFBFfq3AcRvok2JABDK/wc7k7SHSYy0e/hk1Ahtg4GDGUPjG
hvztxnQzmlOm/B4o2wIDAQAB
-----END PUBLIC KEY-----
`
	opensslOlder = `-----BEGIN RSA PUBLIC KEY-----
MIIBCgKCAQEAyHdgytSDRn47A/cltJ5Yma8flY5n2Qw7G4c+S23rghczai6ikAv2
1x6/1ZGsR86JLj7cOTqz55Hf9Ykh6EQvnmpQcB+5OfrTBqiPO/22Hl6JN52+CJtQ
3zZbmdxlw0nn6XuGDknTpHCUtRgg1UooSDxKNfMzYTZkxg6ayqxiB2w1S/nc2g0m
J3vrf5G6d0i8CRabRaWA+G+GEbwNVRh+VLMNI+1cmvk11EkRmKIHmg757GAl78xd
a8OH/TmtnXi2I2XLHG8zwQkiQNxDfjyVkiTgqeh+wSxaqiGk+bIAYBRB5+ygr5ec
7yeFaEtqGVo5ZOuROUccE7anPzpdKMmu2wIDAQAB
-----END RSA PUBLIC KEY-----
`
)

func TestOpensslTexts(t *testing.T) {
	for _, c := range []struct {
		what, text string
		want       api.Errno
		kty        api.Kty
		crv        api.Crv
	}{
		{"RSA", opensslRSA, api.OK, api.RSA, api.NoCrv}, {"P-256", opensslP256, api.OK, api.EC, api.P256}, {"P-384", opensslP384, api.OK, api.EC, api.P384}, {"Ed25519", opensslEd, api.OK, api.OKP, api.Ed25519},
		{"a compressed point", opensslCompressed, api.ErrDer, 0, 0}, {"a curve by its numbers", opensslExplicit, api.ErrDer, 0, 0}, {"P-521", opensslP521, api.ErrDer, 0, 0}, {"X25519", opensslX25519, api.ErrDer, 0, 0}, {"Ed448", opensslEd448, api.ErrDer, 0, 0}, {"an RSA key for PSS alone", opensslPSS, api.ErrDer, 0, 0}, {"RSA of 1024 bits", opensslShort, api.ErrKey, 0, 0}, {"RSA's older form", opensslOlder, api.ErrPem, 0, 0},
	} {
		mustUnpem(t, c.what, c.want, c.text)
		k, _ := spki.Unpem(c.text)
		if k.Kty != c.kty || k.Crv != c.crv {
			t.Errorf("14.5: %s: %s", c.what, told(k))
		}
		if c.want == api.OK {
			holdLibrary(t, k)
		}
	}
	if k, _ := spki.Unpem(opensslRSA); !bytes.Equal(k.E, big.NewInt(65537).Bytes()) || len(k.N) != 256 {
		t.Errorf("14.5: RSA: %s", told(k))
	}
}
