package rsa1_test

import (
	"bytes"
	"crypto/sha256"
	"crypto/sha512"
	"encoding/hex"
	"math/big"
	"slices"
	"strings"
	"testing"

	"signet/api"
	"signet/rsa1"
)

// The chapter's words, over the numbers and sums of Go's own library.

func unhex(text string) []byte {
	b, err := hex.DecodeString(strings.ReplaceAll(text, " ", ""))
	if err != nil {
		panic(err)
	}
	return b
}

func number(b []byte) *big.Int { return new(big.Int).SetBytes(b) }

// sized: a number in just so many bytes.
func sized(x *big.Int, size int) []byte { return x.FillBytes(make([]byte, size)) }

// power: 2^k.
func power(k int) *big.Int { return new(big.Int).Lsh(big.NewInt(1), uint(k)) }

func plus(x *big.Int, by int64) *big.Int { return new(big.Int).Add(x, big.NewInt(by)) }

func cubed(x *big.Int) *big.Int { return new(big.Int).Exp(x, big.NewInt(3), nil) }

// part: is it a number of a key, from least to most?
func part(b []byte, least, most *big.Int) bool {
	x := number(b)
	return len(b) == len(x.Bytes()) && x.Bit(0) == 1 && x.Cmp(least) >= 0 && x.Cmp(most) <= 0
}

func wantKey(n, e []byte) api.Errno {
	if part(n, power(2047), plus(power(4096), -1)) && part(e, big.NewInt(3), big.NewInt(1<<32-1)) {
		return api.OK
	}
	return api.ErrKey
}

// digestInfo: T of the message; nil of what is no hash.
func digestInfo(h api.Hash, message []byte) []byte {
	switch h {
	case api.SHA256:
		sum := sha256.Sum256(message)
		return append(unhex("30 31 30 0d 06 09 60 86 48 01 65 03 04 02 01 05 00 04 20"), sum[:]...)
	case api.SHA384:
		sum := sha512.Sum384(message)
		return append(unhex("30 41 30 0d 06 09 60 86 48 01 65 03 04 02 02 05 00 04 30"), sum[:]...)
	case api.SHA512:
		sum := sha512.Sum512(message)
		return append(unhex("30 51 30 0d 06 09 60 86 48 01 65 03 04 02 03 05 00 04 40"), sum[:]...)
	}
	return nil
}

// filled: bytes ahead, as many ff as make up the size, and bytes behind.
func filled(ahead, behind []byte, size int) []byte {
	return slices.Concat(ahead, bytes.Repeat([]byte{0xff}, size-len(ahead)-len(behind)), behind)
}

func wantEncode(h api.Hash, message []byte, size int) ([]byte, api.Errno) {
	info := digestInfo(h, message)
	switch {
	case info == nil:
		return nil, api.ErrAlg
	case size < len(info)+11 || size > 512:
		return nil, api.ErrKey
	}
	return filled([]byte{0, 1}, append([]byte{0}, info...), size), api.OK
}

func wantVerify(h api.Hash, n, e, message, sig []byte) api.Errno {
	switch {
	case digestInfo(h, nil) == nil:
		return api.ErrAlg
	case wantKey(n, e) != api.OK:
		return api.ErrKey
	case len(sig) != len(n) || number(sig).Cmp(number(n)) >= 0:
		return api.ErrSignature
	}
	encoding, _ := wantEncode(h, message, len(n))
	if !bytes.Equal(sized(new(big.Int).Exp(number(sig), number(e), number(n)), len(n)), encoding) {
		return api.ErrSignature
	}
	return api.OK
}

func holdKey(t *testing.T, n, e []byte) {
	t.Helper()
	if got, want := rsa1.Key(n, e), wantKey(n, e); got != want {
		t.Fatalf("9.1: Key of %d bytes %.8x .. and %.40x says %d, want %d", len(n), n, e, got, want)
	}
}

func holdEncode(t *testing.T, h api.Hash, message []byte, size int) {
	t.Helper()
	want, wantCode := wantEncode(h, message, size)
	got, code := rsa1.Encode(h, message, size)
	switch {
	case code != wantCode:
		t.Fatalf("9.2: Encode(%d, %.40x, %d) says %d, want %d", h, message, size, code, wantCode)
	case code != api.OK && got != nil:
		t.Fatalf("P4: Encode(%d, %.40x, %d) = %x beside %d", h, message, size, got, code)
	case !bytes.Equal(got, want):
		t.Fatalf("9.2: Encode(%d, %.40x, %d) = %x, want %x", h, message, size, got, want)
	}
}

func holdVerify(t *testing.T, promise string, h api.Hash, n, e, message, sig []byte) {
	t.Helper()
	mustVerify(t, promise, wantVerify(h, n, e, message, sig), h, n, e, message, sig)
}

// mustVerify: does Verify say what it must?
func mustVerify(t *testing.T, promise string, want api.Errno, h api.Hash, n, e, message, sig []byte) {
	t.Helper()
	if got := rsa1.Verify(h, n, e, message, sig); got != want {
		t.Fatalf("%s: Verify(%d, n of %d bytes %.8x .., e %x, %.40q, sig of %d bytes %x) says %d, want %d", promise, h, len(n), n, e, message, len(sig), sig, got, want)
	}
}
