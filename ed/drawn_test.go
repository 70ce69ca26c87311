package ed_test

import (
	"fmt"
	"math/big"
	"math/rand"
	"slices"
	"strings"
	"testing"

	"signet/api"
)

const full = 1<<32 - 1

// told: numbers, points and bytes, to be read.
func told(parts ...any) string {
	var out []string
	for _, part := range parts {
		switch x := part.(type) {
		case api.Nat:
			out = append(out, fmt.Sprintf("%x (%d limbs)", value(x), len(x)))
		case api.Point:
			out = append(out, fmt.Sprintf("point %s, %s, Inf %t", told(x.X), told(x.Y), x.Inf))
		case []byte:
			out = append(out, fmt.Sprintf("%d bytes %x", len(x), x))
		default:
			out = append(out, fmt.Sprint(x))
		}
	}
	return strings.Join(out, "; ")
}

func drawnBytes(r *rand.Rand, n int) []byte {
	b := make([]byte, n)
	r.Read(b)
	return b
}

// drawn: a number below 2^bits.
func drawn(r *rand.Rand, bits int) *big.Int { return new(big.Int).Rand(r, power(bits)) }

// padded: with so many noughts on top.
func padded(n api.Nat, k int) api.Nat { return slices.Concat(n, make(api.Nat, k)) }

func paddedPoint(p api.Point, x, y int) api.Point {
	return api.Point{X: padded(p.X, x), Y: padded(p.Y, y), Inf: p.Inf}
}

// multiple: B so many times, also below nought.
func multiple(k int64) spot {
	if k < 0 {
		return base().mul(big.NewInt(-k)).neg()
	}
	return base().mul(big.NewInt(k))
}

// next: the points with the least y that is from's or above it and has one.
func next(from *big.Int) []spot {
	for y := new(big.Int).Mod(from, prime); ; y.Mod(plus(y, 1), prime) {
		if all := across(y); len(all) > 0 {
			return all
		}
	}
}

// up: the points with that x, if there are any: y^2 = (1 + x^2) / (1 - d x^2).
func up(x *big.Int) []spot {
	xx := product(x, x)
	y := new(big.Int).ModSqrt(over(plus(xx, 1), plus(minus(product(curveD, xx)), 1)), prime)
	if y == nil {
		return nil
	}
	return []spot{{x, y}, {x, minus(y)}}
}

// eighth: a point whose eightfold is the neutral one, and no lesser multiple.
func eighth() spot {
	for y := int64(2); ; y++ {
		for _, s := range across(big.NewInt(y)) {
			if e := s.mul(order); !e.mul(big.NewInt(4)).is(neutral()) {
				return e
			}
		}
	}
}

// smalls: the eight points whose eightfold is the neutral one, as the multiples of one of them.
func smalls() []spot {
	out, e := []spot{neutral()}, eighth()
	for len(out) < 8 {
		out = append(out, out[len(out)-1].add(e))
	}
	return out
}

// points: of all orders; with small coordinates, with both signs, turned about; each of which is proper.
func points(t *testing.T) []spot {
	t.Helper()
	r := rand.New(rand.NewSource(1))
	out := slices.Concat(smalls(), next(big.NewInt(2)), next(plus(prime, -40)), next(power(32)), next(power(224)))
	for x := int64(1); x < 9; x++ {
		out = append(out, up(big.NewInt(x))...)
	}
	for _, k := range []int64{1, -1, 2, -2, 3, 8} {
		out = append(out, multiple(k))
	}
	for i, e := range smalls() {
		out = append(out, base().add(e))
		out = append(out, next(drawn(r, 255))[0].mul(big.NewInt(int64(1+i%2*7))).add(e))
	}
	for _, s := range out {
		if !pair(s.x, s.y) {
			t.Fatalf("no point: %x, %x", s.x, s.y)
		}
	}
	return out
}

// few: one of each kind.
func few(t *testing.T) []spot {
	t.Helper()
	r := rand.New(rand.NewSource(2))
	e := smalls()
	out := []spot{e[0], e[4], e[2], e[6], e[1], e[3], base(), base().neg(), base().add(e[4]), next(big.NewInt(2))[0], next(big.NewInt(3))[1], next(drawn(r, 255))[0]}
	return append(out, next(drawn(r, 255))[0].mul(big.NewInt(8)))
}

// strangers: what is not on the curve.
func strangers(t *testing.T) []api.Point {
	t.Helper()
	r := rand.New(rand.NewSource(3))
	b := base().point()
	out := []api.Point{{}, {Inf: true}, {X: api.Nat{0}, Y: api.Nat{0}}, {X: b.X}, {Y: b.Y}, {X: b.Y, Y: b.X}, {X: b.X, Y: b.X}, {X: api.Nat{1}}, {X: api.Nat{1}, Y: api.Nat{1}}, {Y: api.Nat{2}}, {Y: api.Nat{1}, Inf: true}, {X: b.X, Y: b.Y, Inf: true}, {X: b.X[:7], Y: b.Y}, {X: b.X, Y: b.Y[1:]}}
	at := func(x, y *big.Int) { out = append(out, api.Point{X: limbs(x), Y: limbs(y)}) }
	for _, s := range points(t) {
		out = append(out, api.Point{X: limbs(s.x), Y: limbs(s.y), Inf: true})
		at(new(big.Int).Add(s.x, prime), s.y)
		at(s.x, new(big.Int).Add(s.y, prime))
		at(new(big.Int).Add(s.x, prime), new(big.Int).Add(s.y, prime))
		at(new(big.Int).Add(s.x, power(256)), s.y)
		at(s.x, new(big.Int).Add(s.y, new(big.Int).Mul(prime, power(9000))))
		if s.x.Sign() > 0 && s.y.Sign() > 0 {
			at(s.x, plus(s.y, 1))
			at(plus(s.x, -1), s.y)
			at(s.x, drawn(r, 255))
		}
	}
	at(prime, big.NewInt(1))
	at(new(big.Int), prime)
	at(prime, prime)
	at(plus(power(256), -1), plus(power(256), -1))
	at(decimal("48439561293906451759052585252797914202762949526041747995844080717082404635286"), decimal("36134250956749795798585127919587881956611106672985015071877198253568414405109"))
	for _, p := range out {
		if _, ok := of(p); ok {
			t.Fatalf("on the curve: %s", told(p))
		}
	}
	return out
}

// scalars: all that Mul takes, small, great, about the orders, proper and not.
func scalars() []api.Nat {
	r := rand.New(rand.NewSource(4))
	out := []api.Nat{nil, {}, {0}, {0, 0, 0}, make(api.Nat, 100), {1}, {1, 0}, {2}, {3, 0, 0}, {full}, {0, 1}, {full, full}, {1 << 31}, padded(limbs(order), 40), padded(slices.Repeat(api.Nat{full}, 32), 5), slices.Repeat(api.Nat{full}, 32)}
	for k := int64(4); k < 20; k++ {
		out = append(out, limbs(big.NewInt(k)))
	}
	for _, k := range []int64{1, 2, 3, 4, 7, 8, 16} {
		for by := int64(-2); by < 3; by++ {
			out = append(out, limbs(plus(times(order, k), by)))
		}
	}
	for _, x := range []*big.Int{power(252), power(255), prime, plus(power(256), -1), power(512), plus(power(512), -1), power(1023), plus(power(1024), -2)} {
		out = append(out, limbs(x))
	}
	for _, bits := range []int{40, 255, 256, 500, 1024} {
		out = append(out, limbs(drawn(r, bits)))
	}
	return out
}

// largeScalars: more than 32 limbs.
func largeScalars() []api.Nat {
	top := append(make(api.Nat, 32), 1)
	return []api.Nat{top, limbs(plus(power(1024), 1)), padded(top, 1), padded(top, 100), append(make(api.Nat, 32), full), append(slices.Repeat(api.Nat{full}, 32), 1), limbs(power(1055)), limbs(power(1056)), limbs(power(5000)), limbs(times(power(5000), 8)), limbs(new(big.Int).Mul(order, power(1024)))}
}

// signer: a number and the key of it: A = a B and, it may be, a point of small order.
type signer struct {
	a   *big.Int
	pub []byte
}

func signerOf(a *big.Int) signer { return signer{a, base().mul(a).bytes()} }

// answerTo: S = r + k a modulo L, behind a first half.
func (o signer) answerTo(first, message []byte, r *big.Int) []byte {
	s := new(big.Int).Mul(challenge(first, o.pub, message), o.a)
	s.Add(s, r).Mod(s, order)
	return slices.Concat(first, low(s))
}

func (o signer) sign(message []byte, r *big.Int) []byte {
	return o.answerTo(base().mul(r).bytes(), message, r)
}

// signed: a key and its signature.
func signed(message []byte) (pub, sig []byte) {
	o := signerOf(big.NewInt(123456789))
	return o.pub, o.sign(message, big.NewInt(987654321))
}

// changed: with some binary digits of one byte the other ones.
func changed(b []byte, i int, by byte) []byte {
	b = slices.Clone(b)
	b[i] ^= by
	return b
}

// wrongKeys: bytes that are no point's.
func wrongKeys(pub []byte) map[string][]byte {
	out := map[string][]byte{
		"no bytes":              nil,
		"31 bytes":              pub[:31],
		"31 bytes, the last":    pub[1:],
		"33 bytes":              append(slices.Clone(pub), 0),
		"33 bytes, a 0 ahead":   append([]byte{0}, pub...),
		"64 bytes":              slices.Concat(pub, pub),
		"y = 2":                 low(big.NewInt(2)),
		"y = 2 and the bit":     changed(low(big.NewInt(2)), 31, 0x80),
		"y = 1 and the bit":     changed(low(big.NewInt(1)), 31, 0x80),
		"y = p - 1 and the bit": changed(low(plus(prime, -1)), 31, 0x80),
	}
	for i := range int64(19) {
		out[fmt.Sprintf("y = p + %d", i)] = low(plus(prime, i))
		out[fmt.Sprintf("y = p + %d and the bit", i)] = changed(low(plus(prime, i)), 31, 0x80)
	}
	return out
}
