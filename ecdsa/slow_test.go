package ecdsa_test

import (
	"bytes"
	"crypto/sha256"
	"crypto/sha512"
	"math/big"
	"testing"

	"signet/api"
	"signet/ecdsa"
)

// The chapter's words, over the numbers and sums of Go's own library: points as pairs, a sum with its division.

// plain: a curve as the table of doc/11-curve.md gives it.
type plain struct {
	p, b, n, x, y *big.Int
	size          int
}

// spot: a point as a pair; x is nil of the one at infinity.
type spot struct{ x, y *big.Int }

func hexed(digits string) *big.Int {
	x, ok := new(big.Int).SetString(digits, 16)
	if !ok {
		panic(digits)
	}
	return x
}

func plainOf(c api.Crv) (plain, bool) {
	switch c {
	case api.P256:
		return plain{
			hexed("ffffffff00000001000000000000000000000000ffffffffffffffffffffffff"),
			hexed("5ac635d8aa3a93e7b3ebbd55769886bc651d06b0cc53b0f63bce3c3e27d2604b"),
			hexed("ffffffff00000000ffffffffffffffffbce6faada7179e84f3b9cac2fc632551"),
			hexed("6b17d1f2e12c4247f8bce6e563a440f277037d812deb33a0f4a13945d898c296"),
			hexed("4fe342e2fe1a7f9b8ee7eb4a7c0f9e162bce33576b315ececbb6406837bf51f5"), 32}, true
	case api.P384:
		return plain{
			hexed("fffffffffffffffffffffffffffffffffffffffffffffffffffffffffffffffeffffffff0000000000000000ffffffff"),
			hexed("b3312fa7e23ee7e4988e056be3f82d19181d9c6efe8141120314088f5013875ac656398d8a2ed19d2a85c8edd3ec2aef"),
			hexed("ffffffffffffffffffffffffffffffffffffffffffffffffc7634d81f4372ddf581a0db248b0a77aecec196accc52973"),
			hexed("aa87ca22be8b05378eb1c71ef320ad746e1d3b628ba79b9859f741e082542a385502f25dbf55296c3a545e3872760ab7"),
			hexed("3617de4a96262c6f5d9e98bf9292dc29f8f41dbd289a147ce9da3113b5f0b8c00a60b1ce1d7e819d7a431d7c90ea0e5f"), 48}, true
	}
	return plain{}, false
}

// known: a curve that is one.
func known(c api.Crv) plain {
	w, ok := plainOf(c)
	if !ok {
		panic(c)
	}
	return w
}

func value(n api.Nat) *big.Int {
	x := new(big.Int)
	for i := range n {
		x.Or(x.Lsh(x, 32), big.NewInt(int64(n[len(n)-1-i])))
	}
	return x
}

func number(b []byte) *big.Int { return new(big.Int).SetBytes(b) }

func limbs(x *big.Int) api.Nat {
	n := api.Nat{}
	for x = new(big.Int).Set(x); x.Sign() != 0; x.Rsh(x, 32) {
		n = append(n, uint32(x.Uint64()))
	}
	return n
}

func plus(x *big.Int, by int64) *big.Int { return new(big.Int).Add(x, big.NewInt(by)) }

// right: x^3 - 3 x + b modulo p.
func (w plain) right(x *big.Int) *big.Int {
	r := new(big.Int).Mul(x, x)
	r.Sub(r, big.NewInt(3)).Mul(r, x).Add(r, w.b)
	return r.Mod(r, w.p)
}

func (w plain) base() spot { return spot{w.x, w.y} }

// has: are they the coordinates of a point?
func (w plain) has(x, y *big.Int) bool {
	square := new(big.Int).Mul(y, y)
	return x.Cmp(w.p) < 0 && y.Cmp(w.p) < 0 && square.Mod(square, w.p).Cmp(w.right(x)) == 0
}

func (w plain) neg(s spot) spot {
	if s.x == nil {
		return s
	}
	y := new(big.Int).Neg(s.y)
	return spot{s.x, y.Mod(y, w.p)}
}

func (w plain) add(s, t spot) spot {
	switch {
	case s.x == nil:
		return t
	case t.x == nil:
		return s
	case s.x.Cmp(t.x) == 0 && s.y.Cmp(w.neg(t).y) == 0:
		return spot{}
	}
	up, down := new(big.Int).Sub(t.y, s.y), new(big.Int).Sub(t.x, s.x)
	if s.x.Cmp(t.x) == 0 {
		up.Mul(s.x, s.x).Mul(up, big.NewInt(3)).Sub(up, big.NewInt(3))
		down.Lsh(s.y, 1)
	}
	slope := new(big.Int).ModInverse(down.Mod(down, w.p), w.p)
	slope.Mul(slope, up).Mod(slope, w.p)
	x := new(big.Int).Mul(slope, slope)
	x.Sub(x, s.x).Sub(x, t.x).Mod(x, w.p)
	y := new(big.Int).Sub(s.x, x)
	y.Mul(y, slope).Sub(y, s.y).Mod(y, w.p)
	return spot{x, y}
}

func (w plain) mul(k *big.Int, s spot) spot {
	sum := spot{}
	for i := k.BitLen() - 1; i >= 0; i-- {
		sum = w.add(sum, sum)
		if k.Bit(i) == 1 {
			sum = w.add(sum, s)
		}
	}
	return sum
}

// over: the quotient a / b modulo n.
func (w plain) over(a, b *big.Int) *big.Int {
	q := new(big.Int).ModInverse(b, w.n)
	return q.Mul(q, a).Mod(q, w.n)
}

// inRange: from 1 to n - 1.
func (w plain) inRange(k *big.Int) bool { return k.Sign() > 0 && k.Cmp(w.n) < 0 }

// wide: a number in the curve's size of bytes; it must fit.
func (w plain) wide(k *big.Int) []byte { return k.FillBytes(make([]byte, w.size)) }

// sum: nil of what is no hash.
func sum(h api.Hash, message []byte) []byte {
	switch h {
	case api.SHA256:
		s := sha256.Sum256(message)
		return s[:]
	case api.SHA384:
		s := sha512.Sum384(message)
		return s[:]
	case api.SHA512:
		s := sha512.Sum512(message)
		return s[:]
	}
	return nil
}

// z: the number of a message.
func (w plain) z(h api.Hash, message []byte) *big.Int {
	s := sum(h, message)
	if len(s) > w.size {
		s = s[:w.size]
	}
	return number(s)
}

func wantVerify(h api.Hash, c api.Crv, x, y, message, sig []byte) api.Errno {
	w, ok := plainOf(c)
	switch {
	case sum(h, nil) == nil:
		return api.ErrAlg
	case !ok || len(x) != w.size || len(y) != w.size || !w.has(number(x), number(y)):
		return api.ErrKey
	case len(sig) != 2*w.size:
		return api.ErrSignature
	}
	r, s := number(sig[:w.size]), number(sig[w.size:])
	if !w.inRange(r) || !w.inRange(s) {
		return api.ErrSignature
	}
	p := w.add(w.mul(w.over(w.z(h, message), s), w.base()), w.mul(w.over(r, s), spot{number(x), number(y)}))
	if p.x == nil || new(big.Int).Mod(p.x, w.n).Cmp(r) != 0 {
		return api.ErrSignature
	}
	return api.OK
}

func wantRecover(h api.Hash, c api.Crv, message []byte, r, s api.Nat, p api.Point) (x, y []byte, e api.Errno) {
	w, ok := plainOf(c)
	switch {
	case sum(h, nil) == nil:
		return nil, nil, api.ErrAlg
	case !ok:
		return nil, nil, api.ErrKey
	case p.Inf || !w.has(value(p.X), value(p.Y)):
		return nil, nil, api.ErrPoint
	case !w.inRange(value(r)) || !w.inRange(value(s)) || new(big.Int).Mod(value(p.X), w.n).Cmp(value(r)) != 0:
		return nil, nil, api.ErrSignature
	}
	q := w.mul(value(s), spot{value(p.X), value(p.Y)})
	q = w.add(q, w.neg(w.mul(w.z(h, message), w.base())))
	q = w.mul(w.over(big.NewInt(1), value(r)), q)
	if q.x == nil {
		return nil, nil, api.ErrSignature
	}
	return w.wide(q.x), w.wide(q.y), api.OK
}

// mustVerify: is this what Verify says?
func mustVerify(t *testing.T, promise string, want api.Errno, h api.Hash, c api.Crv, x, y, message, sig []byte) {
	t.Helper()
	if got := ecdsa.Verify(h, c, x, y, message, sig); got != want {
		t.Fatalf("%s: Verify(%s) = %d, want %d", promise, told(h, c, x, y, message, sig), got, want)
	}
}

func holdVerify(t *testing.T, promise string, h api.Hash, c api.Crv, x, y, message, sig []byte) api.Errno {
	t.Helper()
	want := wantVerify(h, c, x, y, message, sig)
	mustVerify(t, promise, want, h, c, x, y, message, sig)
	return want
}

// mustRefuse: is this what Recover says, and nothing beside it?
func mustRefuse(t *testing.T, promise string, want api.Errno, h api.Hash, c api.Crv, message []byte, r, s api.Nat, p api.Point) {
	t.Helper()
	x, y, code := ecdsa.Recover(h, c, message, r, s, p)
	if code != want {
		t.Fatalf("%s: Recover(%s) says %d, want %d", promise, told(h, c, message, r, s, p), code, want)
	}
	if x != nil || y != nil {
		t.Fatalf("P4: Recover(%s) = %x, %x beside %d", told(h, c, message, r, s, p), x, y, code)
	}
}

// holdRecover: beside the key itself, does it take the signature?
func holdRecover(t *testing.T, h api.Hash, c api.Crv, message []byte, r, s api.Nat, p api.Point) api.Errno {
	t.Helper()
	wantX, wantY, want := wantRecover(h, c, message, r, s, p)
	if want != api.OK {
		mustRefuse(t, "12.2", want, h, c, message, r, s, p)
		return want
	}
	x, y, code := ecdsa.Recover(h, c, message, r, s, p)
	if code != api.OK || !bytes.Equal(x, wantX) || !bytes.Equal(y, wantY) {
		t.Fatalf("12.2: Recover(%s) = %x, %x, %d, want %x, %x", told(h, c, message, r, s, p), x, y, code, wantX, wantY)
	}
	mustVerify(t, "12.3", api.OK, h, c, x, y, message, joined(c, value(r), value(s)))
	return want
}
