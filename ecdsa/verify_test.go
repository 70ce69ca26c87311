package ecdsa_test

import (
	"bytes"
	"math/big"
	"math/rand"
	"slices"
	"testing"

	"signet/api"
	"signet/curve"
	"signet/ecdsa"
)

// byParts: R = u1 G + u2 Q, by curve's Mul and Add alone.
func byParts(t *testing.T, h api.Hash, c api.Crv, q api.Point, message []byte, r, s *big.Int) api.Point {
	t.Helper()
	w := known(c)
	one, code := curve.Mul(c, limbs(w.over(w.z(h, message), s)), curve.Base(c))
	two, code2 := curve.Mul(c, limbs(w.over(r, s)), q)
	p, code3 := curve.Add(c, one, two)
	if code != api.OK || code2 != api.OK || code3 != api.OK {
		t.Fatalf("%d, %d, %d", code, code2, code3)
	}
	return p
}

// holdEquation: 12.4.
func holdEquation(t *testing.T, h api.Hash, c api.Crv, x, y, message []byte, r, s *big.Int) api.Errno {
	t.Helper()
	w := known(c)
	q := at(number(x), number(y))
	p := byParts(t, h, c, q, message, r, s)
	if p.Inf || new(big.Int).Mod(value(p.X), w.n).Cmp(r) != 0 {
		mustVerify(t, "12.4", api.ErrSignature, h, c, x, y, message, joined(c, r, s))
		return api.ErrSignature
	}
	mustVerify(t, "12.4", api.OK, h, c, x, y, message, joined(c, r, s))
	left, _ := curve.Mul(c, limbs(s), p)
	zg, _ := curve.Mul(c, limbs(w.z(h, message)), curve.Base(c))
	rq, _ := curve.Mul(c, limbs(r), q)
	right, _ := curve.Add(c, zg, rq)
	if !slices.Equal(left.X, right.X) || !slices.Equal(left.Y, right.Y) || left.Inf != right.Inf {
		t.Fatalf("12.4: s R = %s, z G + r Q = %s", told(left), told(right))
	}
	return api.OK
}

// 12.4 and 12.5, at keys whose owners can sign.
func TestEquation(t *testing.T) {
	both(t, func(t *testing.T, c api.Crv) {
		w := known(c)
		rnd := rand.New(rand.NewSource(1))
		last := plus(w.n, -1)
		for i, d := range []*big.Int{big.NewInt(1), last, drawn(rnd, c), drawn(rnd, c)} {
			o := signerOf(c, d)
			for j, k := range []*big.Int{big.NewInt(2), last, drawn(rnd, c)} {
				h := hashes[(i+j)%3]
				message := drawnBytes(rnd, rnd.Intn(200))
				r, s := o.sign(h, message, k)
				opposite := new(big.Int).Sub(w.n, s)
				for _, row := range []struct {
					r, s *big.Int
					want api.Errno
				}{{r, s, api.OK}, {r, opposite, api.OK}, {s, r, api.ErrSignature}, {new(big.Int).Sub(w.n, r), s, api.ErrSignature}, {r, drawn(rnd, c), api.ErrSignature}} {
					if got := holdEquation(t, h, c, o.x, o.y, message, row.r, row.s); got != row.want {
						t.Fatalf("12.4: %d, want %d", got, row.want)
					}
					mustVerify(t, "12.5", row.want, h, c, o.x, o.y, message, joined(c, row.r, new(big.Int).Sub(w.n, row.s)))
				}
			}
		}
	})
}

// 12.1 and 12.5 at drawn numbers, small and great, under keys of all kinds; nearly nothing of it holds.
func TestDrawn(t *testing.T) {
	both(t, func(t *testing.T, c api.Crv) {
		w := known(c)
		rnd := rand.New(rand.NewSource(2))
		keys := []spot{w.base(), w.neg(w.base()), next(c, new(big.Int))[0], next(c, big.NewInt(2))[1], next(c, w.n)[0], next(c, new(big.Int).Rand(rnd, w.n))[1]}
		draw := func() *big.Int {
			edges := []*big.Int{big.NewInt(1), big.NewInt(2), plus(w.n, -1), new(big.Int).Rsh(w.n, 1), plus(new(big.Int).Rsh(w.n, 1), 1), drawn(rnd, c), drawn(rnd, c), plus(new(big.Int).Rand(rnd, power(40)), 1)}
			return edges[rnd.Intn(len(edges))]
		}
		for i := range 60 {
			q, h, message := keys[i%len(keys)], hashes[rnd.Intn(3)], drawnBytes(rnd, rnd.Intn(20))
			mustBeOn(t, c, q)
			r, s := draw(), draw()
			want := holdVerify(t, "12.1", h, c, w.wide(q.x), w.wide(q.y), message, joined(c, r, s))
			mustVerify(t, "12.5", want, h, c, w.wide(q.x), w.wide(q.y), message, joined(c, r, new(big.Int).Sub(w.n, s)))
		}
	})
}

// Keys under which u1 G and u2 Q are opposite points, so that R is at infinity: Q = - (z / r) G, with every s.
func TestInfinity(t *testing.T) {
	both(t, func(t *testing.T, c api.Crv) {
		w := known(c)
		rnd := rand.New(rand.NewSource(3))
		for _, h := range hashes {
			for _, r := range []*big.Int{big.NewInt(1), drawn(rnd, c), new(big.Int).Mod(w.x, w.n)} {
				message := drawnBytes(rnd, 10)
				minus := new(big.Int).Neg(w.z(h, message))
				o := signerOf(c, w.over(minus.Mod(minus, w.n), r))
				for _, s := range []*big.Int{big.NewInt(1), plus(w.n, -1), drawn(rnd, c)} {
					if p := byParts(t, h, c, at(number(o.x), number(o.y)), message, r, s); !p.Inf {
						t.Fatalf("R is %s", told(p))
					}
					mustVerify(t, "12.1: R at infinity", api.ErrSignature, h, c, o.x, o.y, message, joined(c, r, s))
				}
				mustVerify(t, "12.1: r = 0 and R at infinity", api.ErrSignature, h, c, o.x, o.y, message, joined(c, new(big.Int), r))
			}
		}
	})
}

// Signatures of which u1 G and u2 Q are the same point: Q = (z / r) G, s = 2 z / k.
func TestSamePoint(t *testing.T) {
	both(t, func(t *testing.T, c api.Crv) {
		w := known(c)
		rnd := rand.New(rand.NewSource(4))
		for _, h := range hashes {
			for _, k := range []*big.Int{big.NewInt(1), big.NewInt(2), plus(w.n, -1), drawn(rnd, c)} {
				message := drawnBytes(rnd, 10)
				z := w.z(h, message)
				r := new(big.Int).Mod(w.mul(k, w.base()).x, w.n)
				o := signerOf(c, w.over(z, r))
				s := w.over(new(big.Int).Lsh(z, 1), k)
				if got := holdEquation(t, h, c, o.x, o.y, message, r, s); got != api.OK {
					t.Fatalf("12.4: %d", got)
				}
				mustVerify(t, "12.5", api.OK, h, c, o.x, o.y, message, joined(c, r, new(big.Int).Sub(w.n, s)))
				mustVerify(t, "12.1", api.ErrSignature, h, c, o.x, o.y, message, joined(c, r, plus(s, 1)))
			}
		}
	})
}

// Keys of which a coordinate has bytes 0 ahead.
func TestNarrowKeys(t *testing.T) {
	both(t, func(t *testing.T, c api.Crv) {
		w := known(c)
		message := []byte("a message")
		found := [2]int{}
		for d, q := int64(1), w.base(); found[0] < 2 || found[1] < 2; d, q = d+1, w.add(q, w.base()) {
			for i, part := range []*big.Int{q.x, q.y} {
				if part.BitLen() > 8*w.size-8 || found[i] == 2 {
					continue
				}
				found[i]++
				o := signer{c, big.NewInt(d), w.wide(q.x), w.wide(q.y)}
				r, s := o.sign(api.SHA256, message, big.NewInt(d+77))
				mustVerify(t, "12.1", api.OK, api.SHA256, c, o.x, o.y, message, joined(c, r, s))
				mustVerify(t, "12.1: least bytes", api.ErrKey, api.SHA256, c, q.x.Bytes(), q.y.Bytes(), message, joined(c, r, s))
			}
		}
	})
}

// r or s with bytes 0 ahead: they stand there.
func TestNarrowSignatures(t *testing.T) {
	both(t, func(t *testing.T, c api.Crv) {
		w := known(c)
		message := []byte("a message")
		o := signerOf(c, big.NewInt(98765))
		found := [2]int{}
		for k, p := int64(1), w.base(); found[0] < 2 || found[1] < 2; k, p = k+1, w.add(p, w.base()) {
			r := new(big.Int).Mod(p.x, w.n)
			s := new(big.Int).Mul(r, o.d)
			s = w.over(s.Add(s, w.z(api.SHA384, message)), big.NewInt(k))
			for i, part := range []*big.Int{r, s} {
				if part.BitLen() > 8*w.size-8 || found[i] == 2 {
					continue
				}
				found[i]++
				mustVerify(t, "12.1", api.OK, api.SHA384, c, o.x, o.y, message, joined(c, r, s))
				mustVerify(t, "12.1: least bytes", api.ErrSignature, api.SHA384, c, o.x, o.y, message, append(r.Bytes(), s.Bytes()...))
			}
		}
	})
}

// Each byte of a signature, a key and a message counts, and the hash too.
func TestEachByte(t *testing.T) {
	both(t, func(t *testing.T, c api.Crv) {
		message := []byte("pay ten to the bearer")
		x, y, sig := signed(api.SHA256, c, message)
		mustVerify(t, "12.1", api.OK, api.SHA256, c, x, y, message, sig)
		for i := range sig {
			mustVerify(t, "12.1: signature", api.ErrSignature, api.SHA256, c, x, y, message, changed(sig, i, 1<<(i%8)))
		}
		for i := range x {
			holdVerify(t, "12.1: key", api.SHA256, c, changed(x, i, 1<<(i%8)), y, message, sig)
			mustVerify(t, "12.1: key", api.ErrKey, api.SHA256, c, x, changed(y, i, 1<<(i%8)), message, sig)
		}
		for i := range message {
			mustVerify(t, "12.1: message", api.ErrSignature, api.SHA256, c, x, y, changed(message, i, 1<<(i%8)), sig)
		}
		w := known(c)
		opposite := w.neg(spot{number(x), number(y)})
		mustVerify(t, "12.1: the opposite key", api.ErrSignature, api.SHA256, c, x, w.wide(opposite.y), message, sig)
		for _, h := range hashes[1:] {
			mustVerify(t, "12.1: another hash", api.ErrSignature, h, c, x, y, message, sig)
		}
	})
}

// Messages of all lengths about those of a block, and others under the same signature.
func TestMessages(t *testing.T) {
	both(t, func(t *testing.T, c api.Crv) {
		for _, h := range hashes {
			for _, size := range []int{0, 1, 55, 56, 64, 111, 112, 128, 1000, 1 << 16} {
				message := bytes.Repeat([]byte{'m'}, size)
				x, y, sig := signed(h, c, message)
				mustVerify(t, "12.1", api.OK, h, c, x, y, message, sig)
				mustVerify(t, "12.1: another message", api.ErrSignature, h, c, x, y, append(slices.Clone(message), 0), sig)
				mustVerify(t, "12.1: the sum", api.ErrSignature, h, c, x, y, sum(h, message), sig)
			}
			x, y, sig := signed(h, c, nil)
			mustVerify(t, "12.1: no message", api.OK, h, c, x, y, []byte{}, sig)
		}
	})
}

// 12.6: a message counts by its number alone. Of one r, s and R the keys of two messages are r^-1 (z2 - z1) G apart.
func TestWhatCounts(t *testing.T) {
	both(t, func(t *testing.T, c api.Crv) {
		w := known(c)
		rnd := rand.New(rand.NewSource(5))
		for range 3 {
			p := next(c, new(big.Int).Rand(rnd, w.n))[rnd.Intn(2)]
			r, s := new(big.Int).Mod(p.x, w.n), drawn(rnd, c)
			var was spot
			var z *big.Int
			for i := range 6 {
				h, message := hashes[i%3], drawnBytes(rnd, i/3)
				x, y, code := ecdsa.Recover(h, c, message, limbs(r), limbs(s), p.point())
				if code != api.OK {
					t.Fatalf("12.2: %d", code)
				}
				if i > 0 {
					apart := new(big.Int).Sub(z, w.z(h, message))
					step := w.mul(w.over(apart.Mod(apart, w.n), r), w.base())
					if want := w.add(was, step); number(x).Cmp(want.x) != 0 || number(y).Cmp(want.y) != 0 {
						t.Fatalf("12.6: hash %d, message %x: the key is %x, %x, want %x, %x", h, message, x, y, want.x, want.y)
					}
				}
				was, z = spot{number(x), number(y)}, w.z(h, message)
			}
		}
	})
}

// Messages whose numbers begin with bytes 0, or have their highest bits set.
func TestNumbers(t *testing.T) {
	both(t, func(t *testing.T, c api.Crv) {
		w := known(c)
		for _, h := range hashes {
			for _, head := range []byte{0, 0xff} {
				message := []byte{0, 0}
				for ; sum(h, message)[0] != head; message[0]++ {
					if message[0] == 0xff {
						message[1]++
					}
				}
				o := signerOf(c, big.NewInt(31337))
				r, s := o.sign(h, message, big.NewInt(4711))
				mustVerify(t, "12.1", api.OK, h, c, o.x, o.y, message, joined(c, r, s))
				holdRecover(t, h, c, message, limbs(r), limbs(s), w.mul(big.NewInt(4711), w.base()).point())
			}
		}
	})
}

// Messages that were looked for long, so that their numbers are the order of P-256 or more.
func TestNumbersOfTheOrderOrMore(t *testing.T) {
	c, w := api.P256, known(api.P256)
	o := signerOf(c, big.NewInt(31337))
	for h, text := range map[api.Hash]string{api.SHA256: "message 2493601830", api.SHA384: "message 11190220460", api.SHA512: "message 2212862025"} {
		message := []byte(text)
		z := w.z(h, message)
		if z.Cmp(w.n) < 0 {
			t.Fatalf("hash %d: the number of %q is %x", h, text, z)
		}
		r, s := o.sign(h, message, big.NewInt(4711))
		p := w.mul(big.NewInt(4711), w.base()).point()
		if got := holdEquation(t, h, c, o.x, o.y, message, r, s); got != api.OK {
			t.Fatalf("12.4: %d", got)
		}
		mustVerify(t, "12.5", api.OK, h, c, o.x, o.y, message, joined(c, r, new(big.Int).Sub(w.n, s)))
		holdRecover(t, h, c, message, limbs(r), limbs(s), p)
		// z itself is no s, but z less n is, and makes a key at infinity.
		g, x := w.base().point(), limbs(new(big.Int).Mod(w.x, w.n))
		mustRefuse(t, "12.2: s = z", api.ErrSignature, h, c, message, x, limbs(z), g)
		mustRefuse(t, "12.2: s R = z G", api.ErrSignature, h, c, message, x, limbs(new(big.Int).Sub(z, w.n)), g)
	}
}
