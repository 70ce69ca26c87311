package ecdsa_test

import (
	"fmt"
	"math/big"
	"math/rand"
	"slices"
	"strings"
	"testing"

	"signet/api"
)

var (
	hashes   = []api.Hash{api.SHA256, api.SHA384, api.SHA512}
	noHashes = []api.Hash{0, 4, -1, 5, -2, 256, 257, 384, 512, 1 << 32, 1<<32 + 1, -1 << 63, -1<<63 + 1, 1<<63 - 1}
	curves   = []api.Crv{api.P256, api.P384}
	noCurves = []api.Crv{0, 3, -1, 4, -2, 255, 256, 257, 384, 1 << 32, 1<<32 + 1, 1<<32 + 2, -1 << 63, -1<<63 + 1, -1<<63 + 2, 1<<63 - 1}
)

// both runs a test on each of the curves, side by side.
func both(t *testing.T, test func(t *testing.T, c api.Crv)) {
	t.Parallel()
	for _, c := range curves {
		t.Run(fmt.Sprintf("P%d", 8*known(c).size), func(t *testing.T) {
			t.Parallel()
			test(t, c)
		})
	}
}

// told: hashes, curves, numbers, points and bytes, to be read.
func told(parts ...any) string {
	var out []string
	for _, part := range parts {
		switch x := part.(type) {
		case api.Nat:
			out = append(out, fmt.Sprintf("%x (%d limbs)", value(x), len(x)))
		case api.Point:
			out = append(out, fmt.Sprintf("point %s, %s, Inf %t", told(x.X), told(x.Y), x.Inf))
		case []byte:
			out = append(out, fmt.Sprintf("%d bytes %.100x", len(x), x))
		default:
			out = append(out, fmt.Sprint(x))
		}
	}
	return strings.Join(out, ", ")
}

func other(c api.Crv) api.Crv { return api.P256 + api.P384 - c }

// power: 2^k.
func power(k int) *big.Int { return new(big.Int).Lsh(big.NewInt(1), uint(k)) }

// joined: a signature's bytes; both numbers must fit.
func joined(c api.Crv, r, s *big.Int) []byte {
	return slices.Concat(known(c).wide(r), known(c).wide(s))
}

// padded: a number with k noughts on top.
func padded(n api.Nat, k int) api.Nat { return slices.Concat(n, make(api.Nat, k)) }

func at(x, y *big.Int) api.Point { return api.Point{X: limbs(x), Y: limbs(y)} }

func (s spot) point() api.Point {
	if s.x == nil {
		return api.Point{Inf: true}
	}
	return at(s.x, s.y)
}

// above: the two points of an x; none, if there are none.
func above(c api.Crv, x *big.Int) []spot {
	w := known(c)
	y := new(big.Int).ModSqrt(w.right(x), w.p)
	if y == nil {
		return nil
	}
	return []spot{{x, y}, {x, new(big.Int).Sub(w.p, y)}}
}

// next: the points of the least x from this one on that has some.
func next(c api.Crv, x *big.Int) []spot {
	for ; ; x = plus(x, 1) {
		if both := above(c, x); both != nil {
			return both
		}
	}
}

// drawn: a number from 1 to n - 1.
func drawn(r *rand.Rand, c api.Crv) *big.Int {
	return plus(new(big.Int).Rand(r, plus(known(c).n, -1)), 1)
}

func drawnBytes(r *rand.Rand, n int) []byte {
	b := make([]byte, n)
	r.Read(b)
	return b
}

// changed: the bytes with one of them xor a mask.
func changed(b []byte, i int, mask byte) []byte {
	b = slices.Clone(b)
	b[i] ^= mask
	return b
}

func ones(n int) []byte { return slices.Repeat([]byte{0xff}, n) }

// signer: one who knows how many times G the key is.
type signer struct {
	c    api.Crv
	d    *big.Int
	x, y []byte
}

func signerOf(c api.Crv, d *big.Int) signer {
	w := known(c)
	q := w.mul(d, w.base())
	return signer{c, d, w.wide(q.x), w.wide(q.y)}
}

// sign: by the number k, which is kept secret elsewhere: r = x(k G), s = (z + r d) / k. Nobody draws a k that makes a nought.
func (o signer) sign(h api.Hash, message []byte, k *big.Int) (r, s *big.Int) {
	w := known(o.c)
	r = new(big.Int).Mod(w.mul(k, w.base()).x, w.n)
	s = new(big.Int).Mul(r, o.d)
	return r, w.over(s.Add(s, w.z(h, message)), k)
}

// signed: a key, and a signature of the message under it, always the same.
func signed(h api.Hash, c api.Crv, message []byte) (x, y, sig []byte) {
	rnd := rand.New(rand.NewSource(int64(len(message)) + int64(h)))
	o := signerOf(c, drawn(rnd, c))
	r, s := o.sign(h, message, drawn(rnd, c))
	return o.x, o.y, joined(c, r, s)
}

// wrongKeys: bytes that are no coordinates of a point of the curve, by what is wrong with them.
func wrongKeys(c api.Crv, x, y []byte) map[string][2][]byte {
	w := known(c)
	v := known(other(c))
	zero := make([]byte, w.size)
	out := map[string][2][]byte{
		"no bytes":              {nil, nil},
		"x alone":               {x, nil},
		"y alone":               {nil, y},
		"x a byte short":        {x[1:], y},
		"x a byte short behind": {x[:w.size-1], y},
		"y a byte short":        {x, y[1:]},
		"x a byte 0 more":       {append([]byte{0}, x...), y},
		"y a byte 0 more":       {x, append([]byte{0}, y...)},
		"y a byte more behind":  {x, append(slices.Clone(y), 0)},
		"both a byte 0 more":    {append([]byte{0}, x...), append([]byte{0}, y...)},
		"both in one":           {slices.Concat(x, y), nil},
		"a byte to the other":   {append(slices.Clone(x), y[0]), y[1:]},
		"x = p":                 {w.p.Bytes(), y},
		"y = p":                 {x, w.p.Bytes()},
		"p and p":               {w.p.Bytes(), w.p.Bytes()},
		"0 and 0":               {zero, zero},
		"0 and y":               {zero, y},
		"x and 0":               {x, zero},
		"the greatest":          {ones(w.size), ones(w.size)},
		"x and y changed":       {y, x},
		"x and x":               {x, x},
		"x one off":             {changed(x, w.size-1, 1), y},
		"y one off":             {x, changed(y, w.size-1, 1)},
		"y one off on top":      {x, changed(y, 0, 0x80)},
		"the other curve's G":   {v.wide(v.x), v.wide(v.y)},
		"compressed":            {append([]byte{2}, x...), nil},
		"in one with a 4 ahead": {slices.Concat([]byte{4}, x, y), nil},
	}
	if w.size < v.size {
		out["in the other's size"] = [2][]byte{v.wide(number(x)), v.wide(number(y))}
	} else { // the other's numbers fit too, with noughts ahead
		out["the other's G in this size"] = [2][]byte{w.wide(v.x), w.wide(v.y)}
	}
	return out
}

// wrongPoints: what Recover must not take for a point, by what is wrong with it.
func wrongPoints(c api.Crv, p spot) map[string]api.Point {
	w := known(c)
	sum := func(a, b *big.Int) *big.Int { return new(big.Int).Add(a, b) }
	return map[string]api.Point{
		"the zero Point":        {},
		"noughts in limbs":      {X: api.Nat{0}, Y: api.Nat{0, 0}},
		"at infinity":           {Inf: true},
		"at infinity, in limbs": {X: api.Nat{0}, Y: api.Nat{0, 0}, Inf: true},
		"at infinity with an x": {X: api.Nat{1}, Inf: true},
		"a point at infinity":   {X: limbs(p.x), Y: limbs(p.y), Inf: true},
		"x alone":               {X: limbs(p.x)},
		"y alone":               {Y: limbs(p.y)},
		"changed":               at(p.y, p.x),
		"x and p":               at(sum(p.x, w.p), p.y),
		"y and p":               at(p.x, sum(p.y, w.p)),
		"x one off":             at(plus(p.x, 1), p.y),
		"y one off":             at(p.x, plus(p.y, 1)),
		"a limb above x":        {X: append(padded(limbs(p.x), 13-len(limbs(p.x))), 1), Y: limbs(p.y)},
		"a limb above y":        {X: limbs(p.x), Y: append(padded(limbs(p.y), 200), 1)},
		"of the other curve":    known(other(c)).base().point(),
		"p and p":               at(w.p, w.p),
		"x and n":               at(new(big.Int).Mod(sum(p.x, w.n), w.p), p.y),
	}
}

// mustBeOn: what the tests make must be what they say.
func mustBeOn(t *testing.T, c api.Crv, p spot) {
	t.Helper()
	if !known(c).has(p.x, p.y) {
		t.Fatalf("%x, %x is no point of curve %d", p.x, p.y, c)
	}
}
