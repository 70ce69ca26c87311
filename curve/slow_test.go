package curve_test

import (
	"bytes"
	"math/big"
	"slices"
	"testing"

	"signet/api"
	"signet/curve"
	"signet/nat"
)

// The chapter's words, over the numbers of Go's own library: points as pairs, a sum with its division, a multiple as the sum of as many.

// plain: a curve as the chapter's table gives it.
type plain struct {
	p, b, n, x, y *big.Int
	size          int
}

// spot: a point as a pair; x is nil of O.
type spot struct{ x, y *big.Int }

func hexed(digits string) *big.Int {
	x, ok := new(big.Int).SetString(digits, 16)
	if !ok {
		panic(digits)
	}
	return x
}

func plainOf(c api.Crv) (plain, bool) {
	switch c {
	case api.P256:
		return plain{
			hexed("ffffffff00000001000000000000000000000000ffffffffffffffffffffffff"),
			hexed("5ac635d8aa3a93e7b3ebbd55769886bc651d06b0cc53b0f63bce3c3e27d2604b"),
			hexed("ffffffff00000000ffffffffffffffffbce6faada7179e84f3b9cac2fc632551"),
			hexed("6b17d1f2e12c4247f8bce6e563a440f277037d812deb33a0f4a13945d898c296"),
			hexed("4fe342e2fe1a7f9b8ee7eb4a7c0f9e162bce33576b315ececbb6406837bf51f5"), 32}, true
	case api.P384:
		return plain{
			hexed("fffffffffffffffffffffffffffffffffffffffffffffffffffffffffffffffeffffffff0000000000000000ffffffff"),
			hexed("b3312fa7e23ee7e4988e056be3f82d19181d9c6efe8141120314088f5013875ac656398d8a2ed19d2a85c8edd3ec2aef"),
			hexed("ffffffffffffffffffffffffffffffffffffffffffffffffc7634d81f4372ddf581a0db248b0a77aecec196accc52973"),
			hexed("aa87ca22be8b05378eb1c71ef320ad746e1d3b628ba79b9859f741e082542a385502f25dbf55296c3a545e3872760ab7"),
			hexed("3617de4a96262c6f5d9e98bf9292dc29f8f41dbd289a147ce9da3113b5f0b8c00a60b1ce1d7e819d7a431d7c90ea0e5f"), 48}, true
	}
	return plain{}, false
}

// known: a curve that is one.
func known(c api.Crv) plain {
	w, ok := plainOf(c)
	if !ok {
		panic(c)
	}
	return w
}

func value(n api.Nat) *big.Int {
	x := new(big.Int)
	for i := range n {
		x.Or(x.Lsh(x, 32), big.NewInt(int64(n[len(n)-1-i])))
	}
	return x
}

func number(b []byte) *big.Int { return new(big.Int).SetBytes(b) }

func limbs(x *big.Int) api.Nat {
	n := api.Nat{}
	for x = new(big.Int).Set(x); x.Sign() != 0; x.Rsh(x, 32) {
		n = append(n, uint32(x.Uint64()))
	}
	return n
}

func plus(x *big.Int, by int64) *big.Int { return new(big.Int).Add(x, big.NewInt(by)) }

func times(x *big.Int, by int64) *big.Int { return new(big.Int).Mul(x, big.NewInt(by)) }

// right: x^3 - 3 x + b modulo p.
func (w plain) right(x *big.Int) *big.Int {
	r := new(big.Int).Mul(x, x)
	r.Sub(r, big.NewInt(3)).Mul(r, x).Add(r, w.b)
	return r.Mod(r, w.p)
}

func (w plain) base() spot { return spot{w.x, w.y} }

// of: the pair of an api.Point; false, if it is no point of the curve.
func (w plain) of(p api.Point) (spot, bool) {
	x, y := value(p.X), value(p.Y)
	if p.Inf {
		return spot{}, x.Sign() == 0 && y.Sign() == 0
	}
	square := new(big.Int).Mul(y, y)
	return spot{x, y}, x.Cmp(w.p) < 0 && y.Cmp(w.p) < 0 && square.Mod(square, w.p).Cmp(w.right(x)) == 0
}

func (s spot) point() api.Point {
	if s.x == nil {
		return api.Point{Inf: true}
	}
	return api.Point{X: limbs(s.x), Y: limbs(s.y)}
}

func (w plain) neg(s spot) spot {
	if s.x == nil {
		return s
	}
	y := new(big.Int).Neg(s.y)
	return spot{s.x, y.Mod(y, w.p)}
}

func (w plain) add(s, t spot) spot {
	switch {
	case s.x == nil:
		return t
	case t.x == nil:
		return s
	case s.x.Cmp(t.x) == 0 && s.y.Cmp(w.neg(t).y) == 0:
		return spot{}
	}
	up, down := new(big.Int).Sub(t.y, s.y), new(big.Int).Sub(t.x, s.x)
	if s.x.Cmp(t.x) == 0 {
		up, down = plus(times(new(big.Int).Mul(s.x, s.x), 3), -3), times(s.y, 2)
	}
	slope := new(big.Int).ModInverse(down.Mod(down, w.p), w.p)
	slope.Mul(slope, up).Mod(slope, w.p)
	x := new(big.Int).Mul(slope, slope)
	x.Sub(x, s.x).Sub(x, t.x).Mod(x, w.p)
	y := new(big.Int).Sub(s.x, x)
	y.Mul(y, slope).Sub(y, s.y).Mod(y, w.p)
	return spot{x, y}
}

func (w plain) mul(k *big.Int, s spot) spot {
	sum := spot{}
	for i := k.BitLen() - 1; i >= 0; i-- {
		sum = w.add(sum, sum)
		if k.Bit(i) == 1 {
			sum = w.add(sum, s)
		}
	}
	return sum
}

func tooLarge(k api.Nat) bool { return value(k).BitLen() > 32*32 }

func wantOn(c api.Crv, p api.Point) bool {
	w, ok := plainOf(c)
	if ok {
		_, ok = w.of(p)
	}
	return ok
}

func wantNeg(c api.Crv, p api.Point) (api.Point, api.Errno) {
	if !wantOn(c, p) {
		return api.Point{}, api.ErrPoint
	}
	w := known(c)
	s, _ := w.of(p)
	return w.neg(s).point(), api.OK
}

func wantAdd(c api.Crv, p, q api.Point) (api.Point, api.Errno) {
	if !wantOn(c, p) || !wantOn(c, q) {
		return api.Point{}, api.ErrPoint
	}
	w := known(c)
	s, _ := w.of(p)
	t, _ := w.of(q)
	return w.add(s, t).point(), api.OK
}

func wantMul(c api.Crv, k api.Nat, p api.Point) (api.Point, api.Errno) {
	switch {
	case !wantOn(c, p):
		return api.Point{}, api.ErrPoint
	case tooLarge(k):
		return api.Point{}, api.ErrLarge
	}
	w := known(c)
	s, _ := w.of(p)
	return w.mul(value(k), s).point(), api.OK
}

func wantJoint(c api.Crv, a, b api.Nat, q api.Point) (api.Point, api.Errno) {
	switch {
	case !wantOn(c, q):
		return api.Point{}, api.ErrPoint
	case tooLarge(a) || tooLarge(b):
		return api.Point{}, api.ErrLarge
	}
	w := known(c)
	s, _ := w.of(q)
	return w.add(w.mul(value(a), w.base()), w.mul(value(b), s)).point(), api.OK
}

func wantDecode(c api.Crv, x, y []byte) (api.Point, api.Errno) {
	p := api.Point{X: limbs(number(x)), Y: limbs(number(y))}
	if w, ok := plainOf(c); !ok || len(x) != w.size || len(y) != w.size || !wantOn(c, p) {
		return api.Point{}, api.ErrPoint
	}
	return p, api.OK
}

func wantEncode(c api.Crv, p api.Point) (x, y []byte, e api.Errno) {
	if p.Inf || !wantOn(c, p) {
		return nil, nil, api.ErrPoint
	}
	size := known(c).size
	return value(p.X).FillBytes(make([]byte, size)), value(p.Y).FillBytes(make([]byte, size)), api.OK
}

// same: limb by limb, so that what is not proper differs.
func same(p, q api.Point) bool {
	return p.Inf == q.Inf && slices.Equal(p.X, q.X) && slices.Equal(p.Y, q.Y)
}

func zero(p api.Point) bool { return p.X == nil && p.Y == nil && !p.Inf }

// mustBe: is the answer of a call what it must be?
func mustBe(t *testing.T, promise, what string, got api.Point, code api.Errno, want api.Point, wantCode api.Errno) {
	t.Helper()
	switch {
	case code != wantCode:
		t.Fatalf("%s: %s says %d, want %d", promise, what, code, wantCode)
	case code != api.OK && !zero(got):
		t.Fatalf("P4: %s = %s beside %d", what, told(got), code)
	case !same(got, want):
		t.Fatalf("%s: %s = %s, want %s", promise, what, told(got), told(want))
	}
}

func holdOn(t *testing.T, c api.Crv, p api.Point) {
	t.Helper()
	if got, want := curve.On(c, p), wantOn(c, p); got != want {
		t.Fatalf("11.2: On(%s) = %t, want %t", told(c, p), got, want)
	}
}

func holdNeg(t *testing.T, c api.Crv, p api.Point) {
	t.Helper()
	want, wantCode := wantNeg(c, p)
	got, code := curve.Neg(c, p)
	mustBe(t, "11.3", "Neg("+told(c, p)+")", got, code, want, wantCode)
}

func holdAdd(t *testing.T, c api.Crv, p, q api.Point) {
	t.Helper()
	want, wantCode := wantAdd(c, p, q)
	got, code := curve.Add(c, p, q)
	mustBe(t, "11.4", "Add("+told(c, p, q)+")", got, code, want, wantCode)
}

func holdMul(t *testing.T, c api.Crv, k api.Nat, p api.Point) {
	t.Helper()
	want, wantCode := wantMul(c, k, p)
	got, code := curve.Mul(c, k, p)
	mustBe(t, "11.5", "Mul("+told(c, k, p)+")", got, code, want, wantCode)
}

func holdJoint(t *testing.T, c api.Crv, a, b api.Nat, q api.Point) {
	t.Helper()
	want, wantCode := wantJoint(c, a, b, q)
	got, code := curve.Joint(c, a, b, q)
	mustBe(t, "11.6", "Joint("+told(c, a, b, q)+")", got, code, want, wantCode)
}

func holdDecode(t *testing.T, c api.Crv, x, y []byte) {
	t.Helper()
	want, wantCode := wantDecode(c, x, y)
	got, code := curve.Decode(c, x, y)
	mustBe(t, "11.7", "Decode("+told(c, x, y)+")", got, code, want, wantCode)
}

func holdEncode(t *testing.T, c api.Crv, p api.Point) {
	t.Helper()
	wantX, wantY, wantCode := wantEncode(c, p)
	x, y, code := curve.Encode(c, p)
	switch {
	case code != wantCode:
		t.Fatalf("11.7: Encode(%s) says %d, want %d", told(c, p), code, wantCode)
	case code != api.OK && (x != nil || y != nil):
		t.Fatalf("P4: Encode(%s) = %x, %x beside %d", told(c, p), x, y, code)
	case !bytes.Equal(x, wantX) || !bytes.Equal(y, wantY):
		t.Fatalf("11.7: Encode(%s) = %x, %x, want %x, %x", told(c, p), x, y, wantX, wantY)
	}
}

// answer: what a call answers, to be handed on beside other things.
type answer struct {
	p    api.Point
	code api.Errno
}

func answered(p api.Point, code api.Errno) answer { return answer{p, code} }

// sure: the answer of a call that must not refuse.
func sure(t *testing.T, a answer) api.Point {
	t.Helper()
	p := a.p
	if a.code != api.OK {
		t.Fatalf("refused with %d", a.code)
	}
	if !slices.Equal(p.X, nat.FromBytes(nat.Bytes(p.X))) || !slices.Equal(p.Y, nat.FromBytes(nat.Bytes(p.Y))) {
		t.Fatalf("not proper: %s", told(p))
	}
	return p
}
