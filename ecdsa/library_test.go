package ecdsa_test

import (
	library "crypto/ecdsa"
	"crypto/elliptic"
	"encoding/base64"
	"math/big"
	"math/rand"
	"slices"
	"testing"

	"signet/api"
)

func libraryTakes(h api.Hash, c api.Crv, x, y, message []byte, r, s *big.Int) bool {
	l := elliptic.P256()
	if c == api.P384 {
		l = elliptic.P384()
	}
	return library.Verify(&library.PublicKey{Curve: l, X: number(x), Y: number(y)}, sum(h, message), r, s)
}

// What Go's own library takes is taken, and nothing else.
func TestLibrary(t *testing.T) {
	both(t, func(t *testing.T, c api.Crv) {
		w := known(c)
		rnd := rand.New(rand.NewSource(21))
		taken, refused := 0, 0
		for range 6 {
			o := signerOf(c, drawn(rnd, c))
			for _, h := range hashes {
				message := drawnBytes(rnd, 40)
				r, s := o.sign(h, message, drawn(rnd, c))
				for _, pair := range [][2]*big.Int{{r, s}, {r, new(big.Int).Sub(w.n, s)}, {s, r}, {r, plus(s, 1)}, {r, w.n}, {w.n, s}, {new(big.Int), s}, {drawn(rnd, c), drawn(rnd, c)}} {
					want := api.ErrSignature
					if libraryTakes(h, c, o.x, o.y, message, pair[0], pair[1]) {
						want = api.OK
						taken++
					} else {
						refused++
					}
					mustVerify(t, "12.1", want, h, c, o.x, o.y, message, joined(c, pair[0], pair[1]))
				}
			}
		}
		if taken != 6*3*2 || refused != 6*3*6 {
			t.Errorf("the library took %d and refused %d", taken, refused)
		}
	})
}

// printed: a signature that nobody here has made. It was written down from memory, but bears witness, as it holds by Go's own library too.
func printed(t *testing.T, h api.Hash, c api.Crv, x, y, message, sig []byte) {
	t.Helper()
	w := known(c)
	r, s := number(sig[:w.size]), number(sig[w.size:])
	if !libraryTakes(h, c, x, y, message, r, s) {
		t.Fatalf("the library does not take %x", sig)
	}
	mustVerify(t, "12.1", api.OK, h, c, x, y, message, sig)
	mustVerify(t, "12.5", api.OK, h, c, x, y, message, joined(c, r, new(big.Int).Sub(w.n, s)))
	for _, i := range []int{0, 1, w.size - 1, w.size, 2*w.size - 1} {
		mustVerify(t, "12.1", api.ErrSignature, h, c, x, y, message, changed(sig, i, 1))
	}
	mustVerify(t, "12.1", api.ErrSignature, h, c, x, y, changed(message, 0, 1), sig)
	for _, other := range hashes {
		if other != h {
			mustVerify(t, "12.1", api.ErrSignature, other, c, x, y, message, sig)
		}
	}
}

// The signatures of RFC 6979, A.2.5 and A.2.6.
func TestRfc6979(t *testing.T) {
	t.Parallel()
	for _, key := range []struct {
		c    api.Crv
		x, y string
		sigs map[string][]string // by the message: r and s of each hash
	}{
		{api.P256, "60FED4BA255A9D31C961EB74C6356D68C049B8923B61FA6CE669622E60F29FB6", "7903FE1008B8BC99A41AE9E95628BC64F2F1B20C2D7E9F5177A3C294D4462299", map[string][]string{
			"sample": {
				"EFD48B2AACB6A8FD1140DD9CD45E81D69D2C877B56AAF991C34D0EA84EAF3716", "F7CB1C942D657C41D436C7A1B6E29F65F3E900DBB9AFF4064DC4AB2F843ACDA8",
				"0EAFEA039B20E9B42309FB1D89E213057CBF973DC0CFC8F129EDDDC800EF7719", "4861F0491E6998B9455193E34E7B0D284DDD7149A74B95B9261F13ABDE940954",
				"8496A60B5E9B47C825488827E0495B0E3FA109EC4568FD3F8D1097678EB97F00", "2362AB1ADBE2B8ADF9CB9EDAB740EA6049C028114F2460F96554F61FAE3302FE"},
			"test": {
				"F1ABB023518351CD71D881567B1EA663ED3EFCF6C5132B354F28D3B0B7D38367", "019F4113742A2B14BD25926B49C649155F267E60D3814B4C0CC84250E46F0083",
				"83910E8B48BB0C74244EBDF7F07A1C5413D61472BD941EF3920E623FBCCEBEB6", "8DDBEC54CF8CD5874883841D712142A56A8D0F218F5003CB0296B6B509619F2C",
				"461D93F31B6540894788FD206C07CFA0CC35F46FA3C91816FFF1040AD1581A04", "39AF9F15DE0DB8D97E72719C74820D304CE5226E32DEDAE67519E840D1194E55"},
		}},
		{api.P384, "EC3A4E415B4E19A4568618029F427FA5DA9A8BC4AE92E02E06AAE5286B300C64DEF8F0EA9055866064A254515480BC13", "8015D9B72D7D57244EA8EF9AC0C621896708A59367F9DFB9F54CA84B3F1C9DB1288B231C3AE0D4FE7344FD2533264720", map[string][]string{
			"sample": {
				"21B13D1E013C7FA1392D03C5F99AF8B30C570C6F98D4EA8E354B63A21D3DAA33BDE1E888E63355D92FA2B3C36D8FB2CD", "F3AA443FB107745BF4BD77CB3891674632068A10CA67E3D45DB2266FA7D1FEEBEFDC63ECCD1AC42EC0CB8668A4FA0AB0",
				"94EDBB92A5ECB8AAD4736E56C691916B3F88140666CE9FA73D64C4EA95AD133C81A648152E44ACF96E36DD1E80FABE46", "99EF4AEB15F178CEA1FE40DB2603138F130E740A19624526203B6351D0A3A94FA329C145786E679E7B82C71A38628AC8",
				"ED0959D5880AB2D869AE7F6C2915C6D60F96507F9CB3E047C0046861DA4A799CFE30F35CC900056D7C99CD7882433709", "512C8CCEEE3890A84058CE1E22DBC2198F42323CE8ACA9135329F03C068E5112DC7CC3EF3446DEFCEB01A45C2667FDD5"},
			"test": {
				"6D6DEFAC9AB64DABAFE36C6BF510352A4CC27001263638E5B16D9BB51D451559F918EEDAF2293BE5B475CC8F0188636B", "2D46F3BECBCC523D5F1A1256BF0C9B024D879BA9E838144C8BA6BAEB4B53B47D51AB373F9845C0514EEFB14024787265",
				"8203B63D3C853E8D77227FB377BCF7B7B772E97892A80F36AB775D509D7A5FEB0542A7F0812998DA8F1DD3CA3CF023DB", "DDD0760448D42D8A43AF45AF836FCE4DE8BE06B485E9B61B827C2F13173923E06A739F040649A667BF3B828246BAA5A5",
				"A0D5D090C9980FAF3C2CE57B7AE951D31977DD11C775D314AF55F76C676447D06FB6495CD21B4B6E340FC236584FB277", "976984E59B4C77B0E8E4460DCA3D9F20E07B9BB1F63BEEFAF576F6B2E8B224634A2092CD3792E0159AD9CEE37659C736"},
		}},
	} {
		w := known(key.c)
		for message, sigs := range key.sigs {
			for i, h := range hashes {
				printed(t, h, key.c, w.wide(hexed(key.x)), w.wide(hexed(key.y)), []byte(message), joined(key.c, hexed(sigs[2*i]), hexed(sigs[2*i+1])))
			}
		}
	}
}

// The token of RFC 7515, A.3.
func TestRfc7515(t *testing.T) {
	read := func(text string) []byte {
		b, err := base64.RawURLEncoding.DecodeString(text)
		if err != nil {
			t.Fatal(err)
		}
		return b
	}
	x, y := read("f83OJ3D2xF1Bg8vub9tLe1gHMzV76e8Tus9uPHvRVEU"), read("x_FEzRu9m36HLN_tue659LNpXW6pCyStikYjKIWI5a0")
	message := []byte("eyJhbGciOiJFUzI1NiJ9.eyJpc3MiOiJqb2UiLA0KICJleHAiOjEzMDA4MTkzODAsDQogImh0dHA6Ly9leGFtcGxlLmNvbS9pc19yb290Ijp0cnVlfQ")
	sig := read("DtEhU3ljbEg8L38VWAfUAqOyKAM6-Xx-F4GawxaepmXFCgfTjDxw5djxLa8ISlSApmWQxfKTUJqPP3-Kg6NU1Q")
	printed(t, api.SHA256, api.P256, x, y, message, sig)
	mustVerify(t, "12.1", api.ErrSignature, api.SHA256, api.P256, x, y, slices.Concat(message, []byte(".")), sig)
}
