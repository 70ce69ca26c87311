package curve_test

import (
	"bytes"
	"math/big"
	"math/rand"
	"slices"
	"testing"

	"signet/api"
	"signet/curve"
)

// wide: a number in just as many bytes as the curve's coordinates have, if it fits.
func wide(c api.Crv, x *big.Int) []byte {
	size := known(c).size
	if len(x.Bytes()) > size {
		return x.Bytes()
	}
	return x.FillBytes(make([]byte, size))
}

func TestDecode(t *testing.T) {
	both(t, func(t *testing.T, c api.Crv) {
		for _, p := range points(t, c) {
			if p.Inf {
				continue
			}
			x, y := wide(c, value(p.X)), wide(c, value(p.Y))
			got, code := curve.Decode(c, x, y)
			mustBe(t, "11.7", "Decode("+told(c, x, y)+")", got, code, p, api.OK)
			if len(p.X) == 0 != (value(got.X).Sign() == 0) || got.Inf {
				t.Fatalf("11.7: Decode(%s) = %s", told(c, x, y), told(got))
			}
			holdDecode(t, other(c), x, y)
			holdDecode(t, c, value(p.X).Bytes(), value(p.Y).Bytes())
			longer := [][2][]byte{{x[1:], y}, {x, y[1:]}, {x[:len(x)-1], y}, {x, y[:len(y)-1]}, {slices.Concat([]byte{0}, x), y}, {x, slices.Concat([]byte{0}, y)}, {slices.Concat(x, []byte{0}), y}, {slices.Concat([]byte{0}, x), slices.Concat([]byte{0}, y)}, {x[1:], y[1:]}, {nil, y}, {x, nil}, {nil, nil}, {slices.Concat(x, y), nil}, {slices.Concat(make([]byte, 500), x), y}}
			for _, l := range longer {
				got, code := curve.Decode(c, l[0], l[1])
				mustBe(t, "11.7", "Decode("+told(c, l[0], l[1])+")", got, code, api.Point{}, api.ErrPoint)
			}
			for i := range len(x) {
				holdDecode(t, c, flipped(x, i), y)
				holdDecode(t, c, x, flipped(y, i))
			}
		}
	})
}

// flipped: with one binary digit of one byte the other one.
func flipped(b []byte, i int) []byte {
	b = slices.Clone(b)
	b[i] ^= 1 << (i % 8)
	return b
}

// p and above it, in just as many bytes: what would be a point's number, were p taken off.
func TestDecodeAbove(t *testing.T) {
	both(t, func(t *testing.T, c api.Crv) {
		w := known(c)
		above := func(p api.Point, byX, byY *big.Int) {
			t.Helper()
			x, y := new(big.Int).Add(value(p.X), byX), new(big.Int).Add(value(p.Y), byY)
			if len(x.Bytes()) > w.size || len(y.Bytes()) > w.size {
				t.Fatalf("%s has no room for p", told(p))
			}
			got, code := curve.Decode(c, wide(c, x), wide(c, y))
			want, wantCode := api.Point{}, api.ErrPoint
			if byX.Sign()+byY.Sign() == 0 {
				want, wantCode = p, api.OK
			}
			mustBe(t, "11.7", "Decode of "+told(at(x, y)), got, code, want, wantCode)
		}
		none := new(big.Int)
		for x := range int64(20) {
			for _, p := range over(c, big.NewInt(x)) {
				above(p, none, none)
				above(p, w.p, none)
			}
		}
		for _, p := range low(c) {
			above(p, none, none)
			above(p, none, w.p)
		}
		x, y := wide(c, w.x), wide(c, w.y)
		full := bytes.Repeat([]byte{0xff}, w.size)
		nought := make([]byte, w.size)
		prime, next := wide(c, w.p), wide(c, plus(w.p, 1))
		for _, l := range [][2][]byte{{prime, y}, {x, prime}, {prime, prime}, {next, y}, {x, next}, {full, y}, {x, full}, {full, full}, {nought, nought}, {prime, nought}, {nought, prime}, {x, nought}, {nought, y}, {y, x}, {x, x}} {
			got, code := curve.Decode(c, l[0], l[1])
			mustBe(t, "11.7", "Decode("+told(c, l[0], l[1])+")", got, code, api.Point{}, api.ErrPoint)
		}
	})
}

func TestEncode(t *testing.T) {
	both(t, func(t *testing.T, c api.Crv) {
		for i, p := range points(t, c) {
			holdEncode(t, c, p)
			holdEncode(t, c, api.Point{X: padded(p.X, i%4), Y: padded(p.Y, (i+1)%3), Inf: p.Inf})
			holdEncode(t, c, api.Point{X: padded(p.X, 100), Y: padded(p.Y, 1), Inf: p.Inf})
			holdEncode(t, other(c), p)
		}
		for _, p := range []api.Point{infinite(), {X: api.Nat{0}, Inf: true}, {X: api.Nat{0, 0}, Y: api.Nat{0}, Inf: true}} {
			if x, y, code := curve.Encode(c, p); code != api.ErrPoint || x != nil || y != nil {
				t.Fatalf("11.7: Encode(%s) = %x, %x, %d", told(c, p), x, y, code)
			}
		}
		for _, p := range strangers(t, c) {
			if x, y, code := curve.Encode(c, p); code != api.ErrPoint || x != nil || y != nil {
				t.Fatalf("11.7: Encode(%s) = %x, %x, %d", told(c, p), x, y, code)
			}
		}
	})
}

func TestThereAndBack(t *testing.T) {
	both(t, func(t *testing.T, c api.Crv) {
		all := points(t, c)
		for k := int64(1); k < 300; k++ {
			all = append(all, sure(t, answered(curve.Add(c, all[len(all)-1], multiple(c, 1)))))
		}
		for _, p := range all {
			if p.Inf {
				continue
			}
			x, y, code := curve.Encode(c, p)
			if code != api.OK || len(x) != curve.Size(c) || len(y) != curve.Size(c) {
				t.Fatalf("11.10: Encode(%s) = %d and %d bytes, %d", told(c, p), len(x), len(y), code)
			}
			back, code := curve.Decode(c, x, y)
			mustBe(t, "11.10", "Decode of Encode of "+told(p), back, code, p, api.OK)
			u, v, code := curve.Encode(c, back)
			if code != api.OK || !bytes.Equal(u, x) || !bytes.Equal(v, y) {
				t.Fatalf("11.10: Encode of Decode(%s) = %s, %d", told(c, x, y), told(u, v), code)
			}
		}
	})
}

func drawnBytes(r *rand.Rand, n int) []byte {
	b := make([]byte, n)
	r.Read(b)
	return b
}
