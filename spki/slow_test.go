package spki_test

import (
	"bytes"
	"crypto/elliptic"
	"encoding/asn1"
	"encoding/base64"
	"encoding/hex"
	"fmt"
	"math/big"
	"slices"
	"strings"
	"testing"

	"signet/api"
	"signet/spki"
)

// The chapter's words, over Go's own library: numbers by math/big, elements by encoding/asn1, base64 by encoding/base64.

const (
	firstLine = "-----BEGIN PUBLIC KEY-----"
	lastLine  = "-----END PUBLIC KEY-----"
	maxDer    = 65536
)

// The algorithms, as whole elements.
var (
	rsaAlgorithm  = unhex("30 0d 06 09 2a 86 48 86 f7 0d 01 01 01 05 00")
	p256Algorithm = unhex("30 13 06 07 2a 86 48 ce 3d 02 01 06 08 2a 86 48 ce 3d 03 01 07")
	p384Algorithm = unhex("30 10 06 07 2a 86 48 ce 3d 02 01 06 05 2b 81 04 00 22")
	edAlgorithm   = unhex("30 05 06 03 2b 65 70")
)

// unhex: bytes in the base sixteen, blanks between them as one likes.
func unhex(text string) []byte {
	b, err := hex.DecodeString(strings.ReplaceAll(text, " ", ""))
	if err != nil {
		panic(text)
	}
	return b
}

func params(c api.Crv) *elliptic.CurveParams {
	if c == api.P256 {
		return elliptic.P256().Params()
	}
	return elliptic.P384().Params()
}

func number(b []byte) *big.Int { return new(big.Int).SetBytes(b) }

func power(k uint) *big.Int { return new(big.Int).Lsh(big.NewInt(1), k) }

func plus(x *big.Int, by int64) *big.Int { return new(big.Int).Add(x, big.NewInt(by)) }

// isOdd: without a byte 0 ahead, odd, and within the two bounds.
func isOdd(b []byte, least, most *big.Int) bool {
	x := number(b)
	return bytes.Equal(x.Bytes(), b) && x.Bit(0) == 1 && x.Cmp(least) >= 0 && x.Cmp(most) <= 0
}

// cubed: x^3 - 3 x + b modulo p.
func cubed(c api.Crv, x *big.Int) *big.Int {
	g := params(c)
	y := new(big.Int).Exp(x, big.NewInt(3), g.P)
	y.Add(y.Sub(y, new(big.Int).Mul(x, big.NewInt(3))), g.B)
	return y.Mod(y, g.P)
}

func isPoint(c api.Crv, x, y []byte) bool {
	if c != api.P256 && c != api.P384 {
		return false
	}
	p, size := params(c).P, params(c).BitSize/8
	if len(x) != size || len(y) != size || number(x).Cmp(p) >= 0 || number(y).Cmp(p) >= 0 {
		return false
	}
	return cubed(c, number(x)).Cmp(new(big.Int).Exp(number(y), big.NewInt(2), p)) == 0
}

var edPrime = plus(power(255), -19)

// edRoot: the even x beside that y, if there is one.
func edRoot(y *big.Int) *big.Int {
	over := func(a, b *big.Int) *big.Int {
		b = new(big.Int).Mod(b, edPrime)
		a = new(big.Int).Mul(a, b.ModInverse(b, edPrime))
		return a.Mod(a, edPrime)
	}
	d := over(big.NewInt(-121665), big.NewInt(121666))
	yy := new(big.Int).Mul(y, y)
	x := new(big.Int).ModSqrt(over(plus(yy, -1), plus(new(big.Int).Mul(d, yy), 1)), edPrime)
	if x != nil && x.Bit(0) == 1 {
		x.Sub(edPrime, x)
	}
	return x
}

func isEdPoint(b []byte) bool {
	if len(b) != 32 {
		return false
	}
	b = slices.Clone(b)
	slices.Reverse(b)
	signed := b[0] >= 0x80
	b[0] &= 0x7f
	y := number(b)
	if y.Cmp(edPrime) >= 0 {
		return false
	}
	x := edRoot(y)
	return x != nil && (x.Sign() != 0 || !signed)
}

func wantCheck(k api.Key) api.Errno {
	right := false
	none := func(parts ...[]byte) bool { return len(bytes.Join(parts, nil)) == 0 }
	switch k.Kty {
	case api.Oct:
		right = k.Crv == 0 && len(k.Secret) >= 32 && len(k.Secret) <= 4096 && none(k.N, k.E, k.X, k.Y)
	case api.RSA:
		right = k.Crv == 0 && isOdd(k.N, power(2047), plus(power(4096), -1)) && isOdd(k.E, big.NewInt(3), plus(power(32), -1)) && none(k.Secret, k.X, k.Y)
	case api.EC:
		right = isPoint(k.Crv, k.X, k.Y) && none(k.Secret, k.N, k.E)
	case api.OKP:
		right = k.Crv == api.Ed25519 && isEdPoint(k.X) && none(k.Secret, k.N, k.E, k.Y)
	}
	if right {
		return api.OK
	}
	return api.ErrKey
}

// element: its bytes, with the length in the one form.
func element(tag byte, contents ...[]byte) []byte {
	inside := bytes.Join(contents, nil)
	switch n := len(inside); {
	case n < 0x80:
		return slices.Concat([]byte{tag, byte(n)}, inside)
	case n < 0x100:
		return slices.Concat([]byte{tag, 0x81, byte(n)}, inside)
	case n < 0x10000:
		return slices.Concat([]byte{tag, 0x82, byte(n >> 8), byte(n)}, inside)
	default:
		return slices.Concat([]byte{tag, 0x83, byte(n >> 16), byte(n >> 8), byte(n)}, inside)
	}
}

// integer: of the bytes of a number, with a byte 0 ahead of a highest bit.
func integer(b []byte) []byte {
	if b = bytes.TrimLeft(b, "\x00"); len(b) == 0 || b[0] >= 0x80 {
		return element(2, []byte{0}, b)
	}
	return element(2, b)
}

// bits: a BIT STRING without unused bits.
func bits(b []byte) []byte { return element(3, []byte{0}, b) }

// info: the element of a key of two parts, the algorithm as a whole element, and the key's bytes.
func info(algorithm, key []byte) []byte { return element(0x30, algorithm, bits(key)) }

func rsaBytes(n, e []byte) []byte { return element(0x30, integer(n), integer(e)) }

func pointBytes(x, y []byte) []byte { return slices.Concat([]byte{4}, x, y) }

func wantPrint(k api.Key) ([]byte, api.Errno) {
	switch {
	case wantCheck(k) != api.OK || k.Kty == api.Oct:
		return nil, api.ErrKey
	case k.Kty == api.RSA:
		return info(rsaAlgorithm, rsaBytes(k.N, k.E)), api.OK
	case k.Crv == api.P256:
		return info(p256Algorithm, pointBytes(k.X, k.Y)), api.OK
	case k.Crv == api.P384:
		return info(p384Algorithm, pointBytes(k.X, k.Y)), api.OK
	}
	return info(edAlgorithm, k.X), api.OK
}

// strictly: what the library reads of b, if it writes just b of it.
func strictly[T any](b []byte) (value T, ok bool) {
	rest, err := asn1.Unmarshal(b, &value)
	if err != nil || len(rest) > 0 {
		return value, false
	}
	again, err := asn1.Marshal(value)
	return value, err == nil && bytes.Equal(again, b)
}

// twoParts: the element of a key.
type twoParts struct {
	Algorithm asn1.RawValue
	Key       asn1.BitString
}

// said: the key that bytes say, right or not; false, if they are no element.
func said(b []byte) (api.Key, bool) {
	whole, ok := strictly[twoParts](b)
	if !ok || whole.Key.BitLength%8 != 0 {
		return api.Key{}, false
	}
	key := whole.Key.Bytes
	half := func(c api.Crv, size int) (api.Key, bool) {
		if len(key) != 1+2*size || key[0] != 4 {
			return api.Key{}, false
		}
		return api.Key{Kty: api.EC, Crv: c, X: key[1 : 1+size], Y: key[1+size:]}, true
	}
	switch algorithm := whole.Algorithm.FullBytes; {
	case bytes.Equal(algorithm, rsaAlgorithm):
		return saidRSA(key)
	case bytes.Equal(algorithm, p256Algorithm):
		return half(api.P256, 32)
	case bytes.Equal(algorithm, p384Algorithm):
		return half(api.P384, 48)
	case bytes.Equal(algorithm, edAlgorithm):
		return api.Key{Kty: api.OKP, Crv: api.Ed25519, X: key}, len(key) == 32
	}
	return api.Key{}, false
}

func saidRSA(key []byte) (api.Key, bool) {
	pair, ok := strictly[struct{ N, E *big.Int }](key)
	if !ok || pair.N.Sign() < 0 || pair.E.Sign() < 0 {
		return api.Key{}, false
	}
	return api.Key{Kty: api.RSA, N: pair.N.Bytes(), E: pair.E.Bytes()}, true
}

func wantParse(b []byte) (api.Key, api.Errno) {
	if len(b) > maxDer {
		return api.Key{}, api.ErrLarge
	}
	k, ok := said(b)
	switch {
	case !ok:
		return api.Key{}, api.ErrDer
	case wantCheck(k) != api.OK:
		return api.Key{}, api.ErrKey
	}
	return k, api.OK
}

// pem: the PEM text of bytes, in lines of so many signs.
func pem(b []byte, width int) string {
	lines := []string{firstLine}
	signs := base64.StdEncoding.EncodeToString(b)
	for line := range slices.Chunk([]byte(signs), width) {
		lines = append(lines, string(line))
	}
	return strings.Join(append(lines, lastLine, ""), "\n")
}

// wantBytes: those of a PEM text, read line by line.
func wantBytes(text string) ([]byte, bool) {
	lines := strings.Split(text, "\n")
	n := len(lines)
	if n < 4 || lines[0] != firstLine || lines[n-2] != lastLine || lines[n-1] != "" {
		return nil, false
	}
	lines = lines[1 : n-2]
	for i, line := range lines {
		last := i == len(lines)-1
		if len(line) == 0 || len(line) > 64 || !last && len(line) < 64 || strings.Contains(line, "\r") {
			return nil, false
		}
	}
	b, err := base64.StdEncoding.Strict().DecodeString(strings.Join(lines, ""))
	return b, err == nil
}

func wantUnpem(text string) (api.Key, api.Errno) {
	b, ok := wantBytes(text)
	if !ok {
		return api.Key{}, api.ErrPem
	}
	return wantParse(b)
}

func same(a, b api.Key) bool {
	return a.Kty == b.Kty && a.Crv == b.Crv && bytes.Equal(a.Secret, b.Secret) && bytes.Equal(a.N, b.N) && bytes.Equal(a.E, b.E) && bytes.Equal(a.X, b.X) && bytes.Equal(a.Y, b.Y)
}

func zero(k api.Key) bool {
	return k.Kty == 0 && k.Crv == 0 && k.Secret == nil && k.N == nil && k.E == nil && k.X == nil && k.Y == nil
}

func told(k api.Key) string {
	return fmt.Sprintf("{Kty %d, Crv %d, Secret %d bytes, N %.20x.. of %d, E %x, X %x, Y %x}", int(k.Kty), int(k.Crv), len(k.Secret), k.N, len(k.N), k.E, k.X, k.Y)
}

// Asking, with every answer held against the chapter's words, P4, and what follows from the answer.

func mustCheck(t *testing.T, what string, want api.Errno, k api.Key) {
	t.Helper()
	if got := spki.Check(k); got != want {
		t.Fatalf("14.1: %s: Check(%s) = %d, want %d", what, told(k), int(got), int(want))
	}
	holdKey(t, k)
}

// holdKey: Check, Print, Pem and back, of whatever key.
func holdKey(t *testing.T, k api.Key) {
	t.Helper()
	if got, want := spki.Check(k), wantCheck(k); got != want {
		t.Fatalf("14.1: Check(%s) = %d, want %d", told(k), int(got), int(want))
	}
	want, wantCode := wantPrint(k)
	b, code := spki.Print(k)
	if code != wantCode || !bytes.Equal(b, want) {
		t.Fatalf("14.2: Print(%s) = %x, %d, want %x, %d", told(k), b, int(code), want, int(wantCode))
	}
	text, again := spki.Pem(k)
	if code != api.OK {
		if b != nil || text != "" || again != code {
			t.Fatalf("14.4, P4: Print and Pem(%s) = %x, %d; %q, %d", told(k), b, int(code), text, int(again))
		}
		return
	}
	if again != api.OK || text != pem(want, 64) {
		t.Fatalf("14.4: Pem(%s) = %q, %d", told(k), text, int(again))
	}
	if back, code := spki.Parse(b); code != api.OK || !same(back, k) {
		t.Fatalf("14.6: Parse of Print(%s) = %s, %d", told(k), told(back), int(code))
	}
	if back, code := spki.Unpem(text); code != api.OK || !same(back, k) {
		t.Fatalf("14.6: Unpem of Pem(%s) = %s, %d", told(k), told(back), int(code))
	}
}

func mustParse(t *testing.T, what string, want api.Errno, b []byte) {
	t.Helper()
	if k, got := spki.Parse(b); got != want {
		t.Fatalf("14.3: %s: Parse(%.90x) of %d bytes = %s, %d, want %d", what, b, len(b), told(k), int(got), int(want))
	}
	holdBytes(t, b)
}

func holdBytes(t *testing.T, b []byte) {
	t.Helper()
	want, wantCode := wantParse(b)
	k, code := spki.Parse(b)
	if code != wantCode || !same(k, want) {
		t.Fatalf("14.3: Parse(%x) of %d bytes = %s, %d, want %s, %d", b, len(b), told(k), int(code), told(want), int(wantCode))
	}
	if code != api.OK {
		if !zero(k) {
			t.Fatalf("P4: Parse(%x) refuses, and answers %s", b, told(k))
		}
		return
	}
	if back, code := spki.Print(k); code != api.OK || !bytes.Equal(back, b) || spki.Check(k) != api.OK {
		t.Fatalf("14.6: Print of Parse(%x) = %x, %d", b, back, int(code))
	}
}

func mustUnpem(t *testing.T, what string, want api.Errno, text string) {
	t.Helper()
	if k, got := spki.Unpem(text); got != want {
		t.Fatalf("14.5: %s: Unpem(%.900q) = %s, %d, want %d", what, text, told(k), int(got), int(want))
	}
	holdText(t, text)
}

func holdText(t *testing.T, text string) {
	t.Helper()
	want, wantCode := wantUnpem(text)
	k, code := spki.Unpem(text)
	if code != wantCode || !same(k, want) {
		t.Fatalf("14.5: Unpem(%.900q) = %s, %d, want %s, %d", text, told(k), int(code), told(want), int(wantCode))
	}
	if code != api.OK {
		if !zero(k) {
			t.Fatalf("P4: Unpem(%.900q) refuses, and answers %s", text, told(k))
		}
		return
	}
	if back, code := spki.Pem(k); code != api.OK || back != text {
		t.Fatalf("14.6: Pem of Unpem(%.900q) = %.900q, %d", text, back, int(code))
	}
}
