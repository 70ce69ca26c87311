package ed_test

import (
	"crypto/ed25519"
	"crypto/sha512"
	"encoding/base64"
	"math/big"
	"math/rand"
	"slices"
	"testing"

	"signet/api"
	"signet/ed"
)

func libraryTakes(pub, message, sig []byte) bool { return ed25519.Verify(pub, message, sig) }

// What Go's own library takes is taken, and nothing else.
func TestLibrary(t *testing.T) {
	t.Parallel()
	rnd := rand.New(rand.NewSource(41))
	taken, refused := 0, 0
	hold := func(pub, message, sig []byte) {
		t.Helper()
		want := api.ErrSignature
		if libraryTakes(pub, message, sig) {
			want = api.OK
			taken++
		} else {
			refused++
		}
		mustVerify(t, "13.4", want, pub, message, sig)
	}
	for n := range 40 {
		k, message := ed25519.NewKeyFromSeed(drawnBytes(rnd, 32)), drawnBytes(rnd, n*n)
		pub, sig := []byte(k[32:]), ed25519.Sign(k, message)
		s := fromLow(sig[32:])
		for _, row := range [][]byte{sig, slices.Concat(sig[:32], low(s.Add(s, order))), changed(sig, rnd.Intn(64), 1<<rnd.Intn(8)), drawnBytes(rnd, 64)} {
			hold(pub, message, row)
		}
	}
	if taken != 40 || refused != 120 {
		t.Errorf("the library took %d and refused %d", taken, refused)
	}
	e := smalls()
	for i := range 64 {
		for j := range 4 {
			hold(e[i%8].bytes(), []byte{byte(j)}, slices.Concat(e[i/8].bytes(), make([]byte, 32)))
			hold(base().add(e[i%8]).bytes(), []byte{byte(j)}, signer{big.NewInt(1), base().add(e[i%8]).bytes()}.answerTo(base().add(e[i/8]).bytes(), []byte{byte(j)}, big.NewInt(1)))
		}
	}
	if taken < 40+40 || refused < 120+300 {
		t.Errorf("the library took %d and refused %d", taken, refused)
	}
}

// Bytes that the library takes as a key, and the chapter does not.
func TestLibraryKeys(t *testing.T) {
	t.Parallel()
	message := []byte("a message")
	sig := slices.Concat(neutral().bytes(), make([]byte, 32))
	count := 0
	for what, key := range wrongKeys(neutral().bytes()) {
		if len(key) == 32 && libraryTakes(key, message, sig) {
			count++
		}
		mustVerify(t, "13.4: key: "+what, api.ErrKey, key, message, sig)
	}
	if count == 0 {
		t.Error("the library takes none of them")
	}
}

// A public key of the library is a B, where a is made of the seed's sum.
func TestLibrarySums(t *testing.T) {
	t.Parallel()
	rnd := rand.New(rand.NewSource(42))
	for range 30 {
		seed := drawnBytes(rnd, 32)
		sum := sha512.Sum512(seed)
		sum[0] &= 0xf8
		sum[31] = sum[31]&0x3f | 0x40
		got, code := ed.Mul(limbs(fromLow(sum[:32])), ed.Base())
		want, code2 := ed.Decode(ed25519.NewKeyFromSeed(seed)[32:])
		if code2 != api.OK {
			t.Fatalf("13.2: %d", code2)
		}
		mustBe(t, "13.3", "Mul("+told(sum[:32])+")", got, code, want, api.OK)
	}
}

// Signatures that nobody here has made: of RFC 8032, 7.1. They were written down from memory, but bear witness, as the library makes the same ones.
func TestRfc8032(t *testing.T) {
	t.Parallel()
	abc := sha512.Sum512([]byte("abc"))
	for _, row := range []struct {
		seed, pub string
		message   []byte
		sig       string
	}{
		{"9d61b19deffd5a60ba844af492ec2cc44449c5697b326919703bac031cae7f60", "d75a980182b10ab7d54bfed3c964073a0ee172f3daa62325af021a68f707511a", nil,
			"e5564300c360ac729086e2cc806e828a84877f1eb8e5d974d873e065224901555fb8821590a33bacc61e39701cf9b46bd25bf5f0595bbe24655141438e7a100b"},
		{"4ccd089b28ff96da9db6c346ec114e0f5b8a319f35aba624da8cf6ed4fb8a6fb", "3d4017c3e843895a92b70aa74d1b7ebc9c982ccf2ec4968cc0cd55f12af4660c", []byte{0x72},
			"92a009a9f0d4cab8720e820b5f642540a2b27b5416503f8fb3762223ebdb69da085ac1e43e15996e458f3613d0f11d8c387b2eaeb4302aeeb00d291612bb0c00"},
		{"c5aa8df43f9f837bedb7442f31dcb7b166d38535076f094b85ce3a2e0b4458f7", "fc51cd8e6218a1a38da47ed00230f0580816ed13ba3303ac5deb911548908025", []byte{0xaf, 0x82},
			"6291d657deec24024827e69c3abe01a30ce548a284743a445e3680d7db5ac3ac18ff9b538d16f290ae67f760984dc6594a7c15e9716ed28dc027beceea1ec40a"},
		{"833fe62409237b9d62ec77587520911e9a759cec1d19755b7da901b96dca3d42", "ec172b93ad5e563bf4932c70e1245034c35467ef2efd4d64ebf819683467e2bf", abc[:],
			"dc2a4459e7369633a52b1bf277839a00201009a3efbf3ecb69bea2186c26b58909351fc9ac90b3ecfdfbc7c66431e0303dca179c138ac17ad9bef1177331a704"},
	} {
		k := ed25519.NewKeyFromSeed(unhex(row.seed))
		if !slices.Equal(k[32:], unhex(row.pub)) || !slices.Equal(ed25519.Sign(k, row.message), unhex(row.sig)) {
			t.Fatalf("the library makes other ones of %s", row.seed)
		}
		mustVerify(t, "13.4", api.OK, unhex(row.pub), row.message, unhex(row.sig))
		mustVerify(t, "13.4", api.ErrSignature, unhex(row.pub), append(slices.Clone(row.message), 0), unhex(row.sig))
	}
}

// The token of RFC 8037, A.4.
func TestRfc8037(t *testing.T) {
	t.Parallel()
	read := func(text string) []byte {
		b, err := base64.RawURLEncoding.DecodeString(text)
		if err != nil {
			t.Fatal(err)
		}
		return b
	}
	pub := read("11qYAYKxCrfVS_7TyWQHOg7hcvPapiMlrwIaaPcHURo")
	message := []byte("eyJhbGciOiJFZERTQSJ9.RXhhbXBsZSBvZiBFZDI1NTE5IHNpZ25pbmc")
	sig := read("hgyY0il_MGCjP0JzlnLWG1PPOt7-09PGcvMg3AIbQR6dWbhijcNR4ki4iylGjg5BhVsPt9g7sVvpAr_MuM0KAg")
	if !libraryTakes(pub, message, sig) {
		t.Fatal("the library does not take it")
	}
	mustVerify(t, "13.4", api.OK, pub, message, sig)
	mustVerify(t, "13.4", api.ErrSignature, pub, changed(message, 5, 1), sig)
}
