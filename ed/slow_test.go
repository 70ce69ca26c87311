package ed_test

import (
	"bytes"
	"crypto/sha512"
	"math/big"
	"slices"
	"testing"

	"signet/api"
	"signet/ed"
	"signet/nat"
)

// The chapter's words, over the numbers of Go's own library: points as pairs, a sum with its divisions, a multiple as the sum of as many, a root by the library's search.

var (
	prime  = plus(power(255), -19)
	order  = new(big.Int).Add(power(252), decimal("27742317777372353535851937790883648493"))
	curveD = over(big.NewInt(-121665), big.NewInt(121666))
)

// spot: a point as a pair.
type spot struct{ x, y *big.Int }

func decimal(digits string) *big.Int {
	x, ok := new(big.Int).SetString(digits, 10)
	if !ok {
		panic(digits)
	}
	return x
}

func plus(x *big.Int, by int64) *big.Int { return new(big.Int).Add(x, big.NewInt(by)) }

func times(x *big.Int, by int64) *big.Int { return new(big.Int).Mul(x, big.NewInt(by)) }

func power(k int) *big.Int { return new(big.Int).Lsh(big.NewInt(1), uint(k)) }

// product: of all of them, modulo p.
func product(all ...*big.Int) *big.Int {
	out := big.NewInt(1)
	for _, x := range all {
		out.Mul(out, x).Mod(out, prime)
	}
	return out
}

// over: a / b modulo p.
func over(a, b *big.Int) *big.Int {
	return product(a, new(big.Int).ModInverse(new(big.Int).Mod(b, prime), prime))
}

func minus(x *big.Int) *big.Int {
	x = new(big.Int).Neg(x)
	return x.Mod(x, prime)
}

func value(n api.Nat) *big.Int {
	x := new(big.Int)
	for i := range n {
		x.Or(x.Lsh(x, 32), big.NewInt(int64(n[len(n)-1-i])))
	}
	return x
}

func limbs(x *big.Int) api.Nat {
	n := api.Nat{}
	for x = new(big.Int).Set(x); x.Sign() != 0; x.Rsh(x, 32) {
		n = append(n, uint32(x.Uint64()))
	}
	return n
}

func reversed(b []byte) []byte {
	b = slices.Clone(b)
	slices.Reverse(b)
	return b
}

// fromLow: the number of bytes, the lowest first; low: the other way, in 32 bytes.
func fromLow(b []byte) *big.Int { return new(big.Int).SetBytes(reversed(b)) }

func low(x *big.Int) []byte { return reversed(x.FillBytes(make([]byte, 32))) }

// pair: are they a pair of the curve?
func pair(x, y *big.Int) bool {
	xx, yy := product(x, x), product(y, y)
	left := new(big.Int).Sub(yy, xx)
	right := plus(product(curveD, xx, yy), 1)
	return x.Cmp(prime) < 0 && y.Cmp(prime) < 0 && left.Sub(left, right).Mod(left, prime).Sign() == 0
}

// across: the points with that y, a number below p; the one with the even x first.
func across(y *big.Int) []spot {
	yy := product(y, y)
	square := over(plus(yy, -1), plus(product(curveD, yy), 1))
	x := new(big.Int).ModSqrt(square, prime)
	switch {
	case x == nil:
		return nil
	case x.Sign() == 0:
		return []spot{{x, y}}
	case x.Bit(0) == 1:
		x = minus(x)
	}
	return []spot{{x, y}, {minus(x), y}}
}

func neutral() spot { return spot{new(big.Int), big.NewInt(1)} }

func base() spot { return across(over(big.NewInt(4), big.NewInt(5)))[0] }

func (s spot) neg() spot { return spot{minus(s.x), s.y} }

func (s spot) add(o spot) spot {
	t := product(curveD, s.x, o.x, s.y, o.y)
	x := new(big.Int).Add(product(s.x, o.y), product(o.x, s.y))
	y := new(big.Int).Add(product(s.y, o.y), product(s.x, o.x))
	return spot{over(x, plus(t, 1)), over(y, plus(minus(t), 1))}
}

func (s spot) mul(k *big.Int) spot {
	sum := neutral()
	for i := k.BitLen() - 1; i >= 0; i-- {
		sum = sum.add(sum)
		if k.Bit(i) == 1 {
			sum = sum.add(s)
		}
	}
	return sum
}

func (s spot) is(o spot) bool { return s.x.Cmp(o.x) == 0 && s.y.Cmp(o.y) == 0 }

func (s spot) point() api.Point { return api.Point{X: limbs(s.x), Y: limbs(s.y)} }

func (s spot) bytes() []byte {
	b := low(s.y)
	b[31] |= byte(s.x.Bit(0)) << 7
	return b
}

// of: the pair of an api.Point; false, if it is not on the curve.
func of(p api.Point) (spot, bool) {
	s := spot{value(p.X), value(p.Y)}
	return s, !p.Inf && pair(s.x, s.y)
}

func tooLarge(k api.Nat) bool { return value(k).BitLen() > 32*32 }

func wantDecode(b []byte) (api.Point, api.Errno) {
	if len(b) != 32 {
		return api.Point{}, api.ErrPoint
	}
	y := fromLow(b)
	if y.SetBit(y, 255, 0); y.Cmp(prime) >= 0 {
		return api.Point{}, api.ErrPoint
	}
	for _, s := range across(y) {
		if bytes.Equal(s.bytes(), b) {
			return s.point(), api.OK
		}
	}
	return api.Point{}, api.ErrPoint
}

func wantEncode(p api.Point) ([]byte, api.Errno) {
	s, ok := of(p)
	if !ok {
		return nil, api.ErrPoint
	}
	return s.bytes(), api.OK
}

func wantAdd(p, q api.Point) (api.Point, api.Errno) {
	s, ok := of(p)
	o, ok2 := of(q)
	if !ok || !ok2 {
		return api.Point{}, api.ErrPoint
	}
	return s.add(o).point(), api.OK
}

func wantMul(k api.Nat, p api.Point) (api.Point, api.Errno) {
	s, ok := of(p)
	switch {
	case !ok:
		return api.Point{}, api.ErrPoint
	case tooLarge(k):
		return api.Point{}, api.ErrLarge
	}
	return s.mul(value(k)).point(), api.OK
}

// challenge: k, of a signature's first half.
func challenge(first, pub, message []byte) *big.Int {
	sum := sha512.Sum512(slices.Concat(first, pub, message))
	k := fromLow(sum[:])
	return k.Mod(k, order)
}

func wantVerify(pub, message, sig []byte) api.Errno {
	p, code := wantDecode(pub)
	if code != api.OK {
		return api.ErrKey
	}
	if len(sig) != 64 {
		return api.ErrSignature
	}
	s := fromLow(sig[32:])
	if s.Cmp(order) >= 0 {
		return api.ErrSignature
	}
	a, _ := of(p)
	r := base().mul(s).add(a.mul(challenge(sig[:32], pub, message)).neg())
	if !bytes.Equal(r.bytes(), sig[:32]) {
		return api.ErrSignature
	}
	return api.OK
}

// same: limb by limb, so that what is not proper differs.
func same(p, q api.Point) bool {
	return p.Inf == q.Inf && slices.Equal(p.X, q.X) && slices.Equal(p.Y, q.Y)
}

func zero(p api.Point) bool { return p.X == nil && p.Y == nil && !p.Inf }

// mustBe: is the answer of a call what it must be?
func mustBe(t *testing.T, promise, what string, got api.Point, code api.Errno, want api.Point, wantCode api.Errno) {
	t.Helper()
	switch {
	case code != wantCode:
		t.Fatalf("%s: %s says %d, want %d", promise, what, code, wantCode)
	case code != api.OK && !zero(got):
		t.Fatalf("P4: %s = %s beside %d", what, told(got), code)
	case !same(got, want):
		t.Fatalf("%s: %s = %s, want %s", promise, what, told(got), told(want))
	}
}

func holdDecode(t *testing.T, b []byte) api.Errno {
	t.Helper()
	want, wantCode := wantDecode(b)
	got, code := ed.Decode(b)
	mustBe(t, "13.2", "Decode("+told(b)+")", got, code, want, wantCode)
	return code
}

func holdEncode(t *testing.T, p api.Point) {
	t.Helper()
	want, wantCode := wantEncode(p)
	got, code := ed.Encode(p)
	switch {
	case code != wantCode:
		t.Fatalf("13.2: Encode(%s) says %d, want %d", told(p), code, wantCode)
	case code != api.OK && got != nil:
		t.Fatalf("P4: Encode(%s) = %x beside %d", told(p), got, code)
	case !bytes.Equal(got, want):
		t.Fatalf("13.2: Encode(%s) = %x, want %x", told(p), got, want)
	}
}

func holdAdd(t *testing.T, p, q api.Point) {
	t.Helper()
	want, wantCode := wantAdd(p, q)
	got, code := ed.Add(p, q)
	mustBe(t, "13.3", "Add("+told(p, q)+")", got, code, want, wantCode)
}

func holdMul(t *testing.T, k api.Nat, p api.Point) {
	t.Helper()
	want, wantCode := wantMul(k, p)
	got, code := ed.Mul(k, p)
	mustBe(t, "13.3", "Mul("+told(k, p)+")", got, code, want, wantCode)
}

func mustVerify(t *testing.T, promise string, want api.Errno, pub, message, sig []byte) {
	t.Helper()
	if got := ed.Verify(pub, message, sig); got != want {
		t.Fatalf("%s: Verify(%s) says %d, want %d", promise, told(pub, message, sig), got, want)
	}
}

func holdVerify(t *testing.T, promise string, pub, message, sig []byte) api.Errno {
	t.Helper()
	want := wantVerify(pub, message, sig)
	mustVerify(t, promise, want, pub, message, sig)
	return want
}

// answer: what a call answers, to be handed on beside other things.
type answer struct {
	p    api.Point
	code api.Errno
}

func answered(p api.Point, code api.Errno) answer { return answer{p, code} }

// sure: the answer of a call that must not refuse.
func sure(t *testing.T, a answer) api.Point {
	t.Helper()
	p := a.p
	if a.code != api.OK {
		t.Fatalf("refused with %d", a.code)
	}
	if !slices.Equal(p.X, nat.FromBytes(nat.Bytes(p.X))) || !slices.Equal(p.Y, nat.FromBytes(nat.Bytes(p.Y))) {
		t.Fatalf("not proper: %s", told(p))
	}
	return p
}
