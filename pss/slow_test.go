package pss_test

import (
	"bytes"
	"crypto/sha256"
	"crypto/sha512"
	"encoding/binary"
	"encoding/hex"
	"math/big"
	"slices"
	"strings"
	"testing"

	"signet/api"
	"signet/pss"
)

// The chapter's words, over the numbers and sums of Go's own library. Holds goes the way of RFC 8017, 9.1.2, which makes no encoding.

func unhex(text string) []byte {
	b, err := hex.DecodeString(strings.ReplaceAll(text, " ", ""))
	if err != nil {
		panic(err)
	}
	return b
}

func number(b []byte) *big.Int { return new(big.Int).SetBytes(b) }

// sized: a number in just so many bytes.
func sized(x *big.Int, size int) []byte { return x.FillBytes(make([]byte, size)) }

// power: 2^k.
func power(k int) *big.Int { return new(big.Int).Lsh(big.NewInt(1), uint(k)) }

func plus(x *big.Int, by int64) *big.Int { return new(big.Int).Add(x, big.NewInt(by)) }

func cubed(x *big.Int) *big.Int { return new(big.Int).Exp(x, big.NewInt(3), nil) }

// sum: nil of what is no hash.
func sum(h api.Hash, parts ...[]byte) []byte {
	text := slices.Concat(parts...)
	switch h {
	case api.SHA256:
		s := sha256.Sum256(text)
		return s[:]
	case api.SHA384:
		s := sha512.Sum384(text)
		return s[:]
	case api.SHA512:
		s := sha512.Sum512(text)
		return s[:]
	}
	return nil
}

func sumLen(h api.Hash) int { return len(sum(h)) }

// bytesFor: the least number of bytes that have so many bits.
func bytesFor(bits int) int {
	n := bits / 8
	if bits%8 != 0 {
		n++
	}
	return n
}

func wantMask(h api.Hash, seed []byte, n int) ([]byte, api.Errno) {
	switch {
	case sumLen(h) == 0:
		return nil, api.ErrAlg
	case n < 0 || n > 65536:
		return nil, api.ErrLarge
	}
	mask := []byte{}
	for i := uint32(0); len(mask) < n; i++ {
		mask = append(mask, sum(h, seed, binary.BigEndian.AppendUint32(nil, i))...)
	}
	return mask[:n], api.OK
}

// masked: a block (that need not be one) made into an encoding around this sum.
func masked(h api.Hash, block, sum []byte, bits int, last byte) []byte {
	mask, _ := wantMask(h, sum, len(block))
	x := new(big.Int).Xor(number(block), number(mask))
	el := len(block) + len(sum) + 1
	low := plus(power(bits-8*(el-len(block))), -1) // the digits that stay
	return slices.Concat(sized(x.And(x, low), len(block)), sum, []byte{last})
}

// blockOf: noughts, the byte 1, the salt.
func blockOf(salt []byte, size int) []byte {
	return slices.Concat(make([]byte, size-1-len(salt)), []byte{1}, salt)
}

func wantEncode(h api.Hash, digest, salt []byte, bits int) ([]byte, api.Errno) {
	hl := sumLen(h)
	switch {
	case hl == 0:
		return nil, api.ErrAlg
	case bits < 0 || bits > 65536:
		return nil, api.ErrLarge
	case len(digest) != hl || bytesFor(bits) < hl+2+len(salt):
		return nil, api.ErrKey
	}
	return masked(h, blockOf(salt, bytesFor(bits)-hl-1), sum(h, make([]byte, 8), digest, salt), bits, 0xbc), api.OK
}

func wantHolds(h api.Hash, digest, em []byte, bits int) bool {
	hl := sumLen(h)
	if hl == 0 || len(digest) != hl || bits < 0 || bits > 65536 {
		return false
	}
	el := bytesFor(bits)
	if len(em) != el || el < 2*hl+2 || em[el-1] != 0xbc || number(em).BitLen() > bits {
		return false
	}
	block, inner := em[:el-hl-1], em[el-hl-1:el-1]
	mask, _ := wantMask(h, inner, len(block))
	open := make([]byte, len(block))
	for i := range open {
		open[i] = block[i] ^ mask[i]
	}
	for k := bits; k < 8*el; k++ { // the digits above those that count
		open[0] &^= 1 << (7 - (8*el - 1 - k))
	}
	ahead, salt := open[:len(open)-hl], open[len(open)-hl:]
	return number(ahead).Cmp(big.NewInt(1)) == 0 && bytes.Equal(sum(h, make([]byte, 8), digest, salt), inner)
}

// part: is it a number of a key, from least to most?
func part(b []byte, least, most *big.Int) bool {
	x := number(b)
	return len(b) == len(x.Bytes()) && x.Bit(0) == 1 && x.Cmp(least) >= 0 && x.Cmp(most) <= 0
}

func isKey(n, e []byte) bool {
	return part(n, power(2047), plus(power(4096), -1)) && part(e, big.NewInt(3), big.NewInt(1<<32-1))
}

func wantVerify(h api.Hash, n, e, message, sig []byte) api.Errno {
	switch {
	case sumLen(h) == 0:
		return api.ErrAlg
	case !isKey(n, e):
		return api.ErrKey
	case len(sig) != len(n) || number(sig).Cmp(number(n)) >= 0:
		return api.ErrSignature
	}
	m := new(big.Int).Exp(number(sig), number(e), number(n))
	b := number(n).BitLen() - 1
	if len(m.Bytes()) > bytesFor(b) || !wantHolds(h, sum(h, message), sized(m, bytesFor(b)), b) {
		return api.ErrSignature
	}
	return api.OK
}

func holdMask(t *testing.T, h api.Hash, seed []byte, n int) {
	t.Helper()
	want, wantCode := wantMask(h, seed, n)
	got, code := pss.Mask(h, seed, n)
	switch {
	case code != wantCode:
		t.Fatalf("10.1: Mask(%d, %.40x, %d) says %d, want %d", h, seed, n, code, wantCode)
	case code != api.OK && got != nil:
		t.Fatalf("P4: Mask(%d, %.40x, %d) = %.40x beside %d", h, seed, n, got, code)
	case !bytes.Equal(got, want):
		t.Fatalf("10.1: Mask(%d, %.40x, %d) = %d bytes %.80x, want %d bytes %.80x", h, seed, n, len(got), got, len(want), want)
	}
}

func holdEncode(t *testing.T, h api.Hash, digest, salt []byte, bits int) {
	t.Helper()
	want, wantCode := wantEncode(h, digest, salt, bits)
	got, code := pss.Encode(h, digest, salt, bits)
	switch {
	case code != wantCode:
		t.Fatalf("10.2: Encode(%d, digest of %d bytes, salt of %d, %d) says %d, want %d", h, len(digest), len(salt), bits, code, wantCode)
	case code != api.OK && got != nil:
		t.Fatalf("P4: Encode(%d, digest of %d bytes, salt of %d, %d) = %.40x beside %d", h, len(digest), len(salt), bits, got, code)
	case !bytes.Equal(got, want):
		t.Fatalf("10.2: Encode(%d, %x, %.80x, %d) = %x, want %x", h, digest, salt, bits, got, want)
	}
}

// mustHold: does Holds say what it must?
func mustHold(t *testing.T, what string, want bool, h api.Hash, digest, em []byte, bits int) {
	t.Helper()
	if got := pss.Holds(h, digest, em, bits); got != want {
		t.Fatalf("10.3: %s: Holds(%d, digest of %d bytes %.8x .., em of %d bytes %x, %d) = %t", what, h, len(digest), digest, len(em), em, bits, got)
	}
}

func holdHolds(t *testing.T, what string, h api.Hash, digest, em []byte, bits int) {
	t.Helper()
	mustHold(t, what, wantHolds(h, digest, em, bits), h, digest, em, bits)
}

// mustVerify: does Verify say what it must?
func mustVerify(t *testing.T, promise string, want api.Errno, h api.Hash, n, e, message, sig []byte) {
	t.Helper()
	if got := pss.Verify(h, n, e, message, sig); got != want {
		t.Fatalf("%s: Verify(%d, n of %d bytes %.8x .., e %x, %.40q, sig of %d bytes %x) says %d, want %d", promise, h, len(n), n, e, message, len(sig), sig, got, want)
	}
}

func holdVerify(t *testing.T, promise string, h api.Hash, n, e, message, sig []byte) {
	t.Helper()
	mustVerify(t, promise, wantVerify(h, n, e, message, sig), h, n, e, message, sig)
}
