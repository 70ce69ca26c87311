package pss_test

import (
	"math/big"
	"math/rand"
	"slices"
	"testing"

	"signet/api"
)

var (
	hashes   = []api.Hash{api.SHA256, api.SHA384, api.SHA512}
	noHashes = []api.Hash{0, 4, -1, 5, -2, -3, 256, 257, 384, 512, 1 << 32, 1<<32 + 1, -1 << 63, -1<<63 + 1, 1<<63 - 1}
	three    = []byte{3}
	usual    = []byte{1, 0, 1}
)

// root: the greatest number whose third power is not above x.
func root(x *big.Int) *big.Int {
	s := power(x.BitLen()/3 + 1)
	for { // Newton's steps come down to it from above
		next := new(big.Int).Div(x, new(big.Int).Mul(s, s))
		next.Add(next, s).Add(next, s).Div(next, big.NewInt(3))
		if next.Cmp(s) >= 0 {
			return s
		}
		s = next
	}
}

// keyFor: a key n of just so many binary digits, to be taken with 3, and a sig whose power under it is m, whatever m is.
func keyFor(t *testing.T, m *big.Int, digits int) (n, sig []byte) {
	t.Helper()
	s := root(plus(new(big.Int).Add(power(digits), m), -1))
	if s.Bit(0) == m.Bit(0) { // n would be even
		s = plus(s, -1)
	}
	modulus := new(big.Int).Sub(cubed(s), m)
	if modulus.BitLen() != digits || modulus.Bit(0) == 0 || modulus.Cmp(m) <= 0 || modulus.Cmp(s) <= 0 {
		t.Fatalf("no key of %d digits for %x", digits, m)
	}
	return modulus.Bytes(), sized(s, bytesFor(digits))
}

// saltFor: a salt of the hash's length, another one by each number.
func saltFor(h api.Hash, i int) []byte { return sum(h, []byte("salt"), big.NewInt(int64(i)).Bytes()) }

// encoded: an encoding of the message's sum, which there must be.
func encoded(t *testing.T, h api.Hash, message, salt []byte, bits int) []byte {
	t.Helper()
	em, code := wantEncode(h, sum(h, message), salt, bits)
	if code != api.OK {
		t.Fatalf("no encoding in %d bits: %d", bits, code)
	}
	return em
}

// signed: a key of so many digits, and a sig of the message under it and 3.
func signed(t *testing.T, h api.Hash, message []byte, digits int) (n, sig []byte) {
	t.Helper()
	return keyFor(t, number(encoded(t, h, message, saltFor(h, digits), digits-1)), digits)
}

// signer: a key whose owner can sign: the product of many primes, and the power that undoes e.
type signer struct{ n, e, d *big.Int }

// drawnPrime: one that begins with the digits 11, and under which e can be undone.
func drawnPrime(r *rand.Rand, digits int, e *big.Int) *big.Int {
	for {
		p := new(big.Int).Rand(r, power(digits-2))
		p.Add(p, new(big.Int).Lsh(big.NewInt(3), uint(digits-2))).SetBit(p, 0, 1)
		if p.ProbablyPrime(10) && new(big.Int).GCD(nil, nil, plus(p, -1), e).Cmp(big.NewInt(1)) == 0 {
			return p
		}
	}
}

func drawnSigner(r *rand.Rand, digits int, e int64) signer {
	k := signer{n: big.NewInt(1), e: big.NewInt(e)}
	below := big.NewInt(1) // how many numbers below n have no divisor with it
	for k.n.BitLen() != digits {
		left := digits - k.n.BitLen()
		last := left < 200
		size := 128
		if last {
			size = left + r.Intn(2)
		}
		p := drawnPrime(r, size, k.e)
		if product := new(big.Int).Mul(k.n, p); !last || product.BitLen() == digits {
			k.n = product
			below.Mul(below, plus(p, -1))
		}
	}
	k.d = new(big.Int).ModInverse(k.e, below)
	return k
}

func (k signer) parts() (n, e []byte) { return k.n.Bytes(), k.e.Bytes() }

// sign: what the key opens to this number, which is below n.
func (k signer) sign(m *big.Int) []byte {
	return sized(new(big.Int).Exp(m, k.d, k.n), len(k.n.Bytes()))
}

func drawnBytes(r *rand.Rand, n int) []byte {
	b := make([]byte, n)
	r.Read(b)
	return b
}

// changed: the bytes with one of them xor a mask.
func changed(b []byte, i int, mask byte) []byte {
	b = slices.Clone(b)
	b[i] ^= mask
	return b
}

func ones(n int) []byte { return slices.Repeat([]byte{0xff}, n) }
