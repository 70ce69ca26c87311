package ecdsa_test

import (
	"bytes"
	"encoding/asn1"
	"math/big"
	"slices"
	"testing"

	"signet/api"
	"signet/curve"
	"signet/ecdsa"
)

// The rows of the chapter's table, on both curves where they name none.
func TestExamples(t *testing.T) {
	message := []byte("a message")
	for _, h := range hashes {
		c, w := api.P256, known(api.P256)
		x, y, sig := signed(h, c, message)
		r, s := number(sig[:32]), number(sig[32:])
		zero := new(big.Int)
		mustVerify(t, "example", api.OK, h, c, x, y, message, sig)
		for what, row := range map[string][]byte{
			"63 bytes": sig[:63], "63 bytes, the last ones": sig[1:], "65 bytes": append(slices.Clone(sig), 0), "65 bytes, a 0 ahead": append([]byte{0}, sig...),
			"r = 0": joined(c, zero, s), "s = n": joined(c, r, w.n), "r = 2^256 - 1": joined(c, plus(power(256), -1), s),
		} {
			mustVerify(t, "example: "+what, api.ErrSignature, h, c, x, y, message, row)
		}
		v := known(api.P384)
		for what, row := range map[string][2][]byte{
			"x of 31 bytes": {x[1:], y}, "x = p": {w.p.Bytes(), y}, "(0, 0)": {make([]byte, 32), make([]byte, 32)}, "a point of P-384": {v.wide(v.x), v.wide(v.y)},
		} {
			mustVerify(t, "example: "+what, api.ErrKey, h, c, row[0], row[1], message, sig)
		}
		for _, c := range curves {
			exampleKeys(t, h, c, message)
		}
	}
}

// exampleKeys: the table's rows of Recover with R = G.
func exampleKeys(t *testing.T, h api.Hash, c api.Crv, message []byte) {
	t.Helper()
	w, g := known(c), curve.Base(c)
	z, r := limbs(w.z(h, message)), new(big.Int).Mod(w.x, w.n)
	x, y, code := ecdsa.Recover(h, c, message, limbs(r), api.Nat{1}, g)
	if code != api.OK {
		t.Fatalf("example: Recover with R = G and s = 1 says %d", code)
	}
	zg, _ := curve.Mul(c, z, g)
	zg, _ = curve.Neg(c, zg)
	q, _ := curve.Add(c, g, zg)
	q, _ = curve.Mul(c, limbs(w.over(big.NewInt(1), r)), q)
	if wantX, wantY, _ := curve.Encode(c, q); !bytes.Equal(x, wantX) || !bytes.Equal(y, wantY) {
		t.Fatalf("example: Recover with R = G and s = 1: %x, %x, want %x, %x", x, y, wantX, wantY)
	}
	mustVerify(t, "example: r and 1", api.OK, h, c, x, y, message, joined(c, r, big.NewInt(1)))
	rest := new(big.Int).Mod(value(z), w.n)
	mustRefuse(t, "example: s R = z G", api.ErrSignature, h, c, message, limbs(r), limbs(rest), g)
}

// Each fault with each that is told behind it: the first one is told.
func TestFirstFault(t *testing.T) {
	both(t, func(t *testing.T, c api.Crv) {
		message := []byte("a message")
		x, y, sig := signed(api.SHA256, c, message)
		sigs := [][]byte{sig, nil, sig[1:], make([]byte, len(sig)), ones(len(sig)), changed(sig, 3, 1)}
		keys := [][2][]byte{{x, y}}
		for _, pair := range wrongKeys(c, x, y) {
			keys = append(keys, pair)
		}
		for i, key := range keys {
			for j, s := range sigs {
				want := api.ErrKey
				if i == 0 {
					want = api.ErrSignature
				}
				if i == 0 && j == 0 {
					want = api.OK
				}
				mustVerify(t, "12.1", want, api.SHA256, c, key[0], key[1], message, s)
				for _, h := range noHashes {
					mustVerify(t, "12.1", api.ErrAlg, h, c, key[0], key[1], message, s)
					mustVerify(t, "12.1", api.ErrAlg, h, noCurves[i%len(noCurves)], key[0], key[1], message, s)
				}
				for _, no := range noCurves {
					mustVerify(t, "12.1", api.ErrKey, api.SHA256, no, key[0], key[1], message, s)
				}
			}
		}
	})
}

func TestFirstFaultOfRecover(t *testing.T) {
	both(t, func(t *testing.T, c api.Crv) {
		message := []byte("a message")
		w := known(c)
		g := w.base()
		r, one := limbs(new(big.Int).Mod(g.x, w.n)), api.Nat{1}
		numbers := [][2]api.Nat{{r, one}, {r, nil}, {nil, one}, {r, limbs(w.n)}, {limbs(w.n), one}, {one, one}, {limbs(power(9000)), limbs(power(9000))}}
		points := []api.Point{g.point()}
		for _, p := range wrongPoints(c, g) {
			points = append(points, p)
		}
		for i, p := range points {
			for j, pair := range numbers {
				switch {
				case i > 0:
					mustRefuse(t, "12.2", api.ErrPoint, api.SHA512, c, message, pair[0], pair[1], p)
				case j > 0:
					mustRefuse(t, "12.2", api.ErrSignature, api.SHA512, c, message, pair[0], pair[1], p)
				default:
					holdRecover(t, api.SHA512, c, message, pair[0], pair[1], p)
				}
				for _, h := range noHashes {
					mustRefuse(t, "12.2", api.ErrAlg, h, c, message, pair[0], pair[1], p)
					mustRefuse(t, "12.2", api.ErrAlg, h, noCurves[i%len(noCurves)], message, pair[0], pair[1], p)
				}
				for _, no := range noCurves {
					mustRefuse(t, "12.2", api.ErrKey, api.SHA384, no, message, pair[0], pair[1], p)
				}
			}
		}
	})
}

func TestWrongKeys(t *testing.T) {
	both(t, func(t *testing.T, c api.Crv) {
		message := []byte("a message")
		x, y, sig := signed(api.SHA384, c, message)
		mustVerify(t, "12.1", api.OK, api.SHA384, c, x, y, message, sig)
		for what, pair := range wrongKeys(c, x, y) {
			mustVerify(t, "12.1: key: "+what, api.ErrKey, api.SHA384, c, pair[0], pair[1], message, sig)
		}
		// Coordinates with p added that still fit, of a point over a small x.
		w := known(c)
		p := next(c, big.NewInt(1))[0]
		great := new(big.Int).Add(p.x, w.p)
		holdVerify(t, "12.1", api.SHA384, c, w.wide(p.x), w.wide(p.y), message, sig)
		mustVerify(t, "12.1: key: p added", api.ErrKey, api.SHA384, c, w.wide(great), w.wide(p.y), message, sig)
	})
}

// Signatures of every length but the one, and in other forms.
func TestLengths(t *testing.T) {
	both(t, func(t *testing.T, c api.Crv) {
		message := []byte("a message")
		size := known(c).size
		for _, h := range hashes {
			x, y, sig := signed(h, c, message)
			long := slices.Concat(sig, make([]byte, 100))
			for n := range long {
				want := api.ErrSignature
				if n == 2*size {
					want = api.OK
				}
				mustVerify(t, "12.1", want, h, c, x, y, message, long[:n])
				if n > 0 && n < len(sig) {
					mustVerify(t, "12.1", api.ErrSignature, h, c, x, y, message, sig[n:])
					mustVerify(t, "12.1", api.ErrSignature, h, c, x, y, message, append(make([]byte, n), sig...))
					mustVerify(t, "12.1", api.ErrSignature, h, c, x, y, message, slices.Concat(sig[:size], make([]byte, n), sig[size:]))
				}
			}
			r, s := number(sig[:size]), number(sig[size:])
			der, err := asn1.Marshal([]*big.Int{r, s})
			if err != nil {
				t.Fatal(err)
			}
			rows := map[string][]byte{
				"DER":                      der,
				"twice":                    slices.Concat(sig, sig),
				"r twice":                  slices.Concat(sig[:size], sig[:size]),
				"s ahead of r":             slices.Concat(sig[size:], sig[:size]),
				"the lowest byte first":    reversed(sig),
				"each the lowest first":    slices.Concat(reversed(sig[:size]), reversed(sig[size:])),
				"r too long, s too short":  slices.Concat([]byte{0}, sig[:size], sig[size+1:]),
				"a byte less, a byte more": append(slices.Clone(sig[1:]), 0),
			}
			for what, row := range rows {
				mustVerify(t, "12.1: "+what, api.ErrSignature, h, c, x, y, message, row)
			}
		}
	})
}

func reversed(b []byte) []byte {
	b = slices.Clone(b)
	slices.Reverse(b)
	return b
}

// r and s at the edges of what they may be, and just behind them.
func TestRanges(t *testing.T) {
	both(t, func(t *testing.T, c api.Crv) {
		message := []byte("a message")
		w := known(c)
		x, y, sig := signed(api.SHA256, c, message)
		r, s := number(sig[:w.size]), number(sig[w.size:])
		top := power(8 * w.size)
		far := []*big.Int{new(big.Int), w.n, plus(w.n, 1), plus(w.n, 2), plus(w.p, -1), w.p, plus(w.p, 1), plus(top, -2), plus(top, -1)}
		near := []*big.Int{big.NewInt(1), big.NewInt(2), plus(w.n, -1), plus(w.n, -2), new(big.Int).Sub(w.p, w.n)}
		for _, edge := range far {
			for _, with := range slices.Concat(near, far, []*big.Int{r, s}) {
				mustVerify(t, "12.1: r outside", api.ErrSignature, api.SHA256, c, x, y, message, joined(c, edge, with))
				mustVerify(t, "12.1: s outside", api.ErrSignature, api.SHA256, c, x, y, message, joined(c, with, edge))
			}
		}
		for i, edge := range near {
			holdVerify(t, "12.1", api.SHA256, c, x, y, message, joined(c, edge, s))
			holdVerify(t, "12.1", api.SHA256, c, x, y, message, joined(c, r, edge))
			holdVerify(t, "12.1", api.SHA256, c, x, y, message, joined(c, edge, near[(i+1)%len(near)]))
		}
	})
}

// r and s that would hold modulo n, in as many bytes, but are n or more.
func TestOrderAdded(t *testing.T) {
	both(t, func(t *testing.T, c api.Crv) {
		message := []byte("a message")
		w := known(c)
		for _, h := range hashes {
			for _, p := range next(c, big.NewInt(1)) {
				r, s := p.x, big.NewInt(12345)
				x, y, code := ecdsa.Recover(h, c, message, limbs(r), limbs(s), p.point())
				if code != api.OK {
					t.Fatalf("12.2: %d", code)
				}
				moreR, moreS := new(big.Int).Add(r, w.n), new(big.Int).Add(s, w.n)
				mustVerify(t, "12.3", api.OK, h, c, x, y, message, joined(c, r, s))
				mustVerify(t, "12.1: r and n", api.ErrSignature, h, c, x, y, message, joined(c, moreR, s))
				mustVerify(t, "12.1: s and n", api.ErrSignature, h, c, x, y, message, joined(c, r, moreS))
				mustVerify(t, "12.1: both and n", api.ErrSignature, h, c, x, y, message, joined(c, moreR, moreS))
				mustRefuse(t, "12.2: r and n", api.ErrSignature, h, c, message, limbs(moreR), limbs(s), p.point())
				mustRefuse(t, "12.2: s and n", api.ErrSignature, h, c, message, limbs(r), limbs(moreS), p.point())
				far := new(big.Int).Mul(w.n, power(5000))
				mustRefuse(t, "12.2: r and much", api.ErrSignature, h, c, message, limbs(far.Add(far, r)), limbs(s), p.point())
				mustRefuse(t, "12.2: s and much", api.ErrSignature, h, c, message, limbs(r), limbs(far.Sub(far, r).Add(far, s)), p.point())
			}
		}
	})
}
