package ed_test

import (
	"math/big"
	"math/rand"
	"slices"
	"testing"

	"signet/api"
	"signet/ed"
)

// hold: all calls on points and numbers, of whatever is handed in.
func hold(t *testing.T, k api.Nat, p, q api.Point) {
	t.Helper()
	holdEncode(t, p)
	holdAdd(t, p, q)
	holdMul(t, k, p)
}

// P1: whatever is handed in.
func TestWild(t *testing.T) {
	t.Parallel()
	r := rand.New(rand.NewSource(61))
	var coordinates []api.Nat
	for _, s := range points(t) {
		coordinates = append(coordinates, limbs(s.x), limbs(s.y))
	}
	coordinates = append(coordinates, limbs(prime), limbs(order), limbs(curveD), nil, api.Nat{0}, api.Nat{1}, slices.Repeat(api.Nat{full}, 8), slices.Repeat(api.Nat{full}, 200), append(make(api.Nat, 300), 1), make(api.Nat, 300))
	draw := func() api.Nat { return coordinates[r.Intn(len(coordinates))] }
	point := func() api.Point {
		at := r.Intn(len(coordinates) - 1)
		if r.Intn(4) > 0 {
			return api.Point{X: coordinates[at&^1], Y: coordinates[at|1], Inf: r.Intn(9) == 0}
		}
		return api.Point{X: draw(), Y: draw(), Inf: r.Intn(4) == 0}
	}
	blob := func() []byte {
		switch n := value(draw()); {
		case r.Intn(3) == 0:
			return drawnBytes(r, r.Intn(100))
		case n.BitLen() <= 256:
			return low(n)
		default:
			return n.Bytes()
		}
	}
	for round := range 1500 {
		k := limbs(drawn(r, r.Intn(80)))
		if round%10 == 0 {
			k = draw()
		}
		hold(t, padded(k, r.Intn(3)), point(), point())
		b := blob()
		holdDecode(t, b)
		if round%5 == 0 {
			holdVerify(t, "13.4", b, blob(), slices.Concat(blob(), blob()))
		}
	}
}

// FuzzCalls: a and n make a key and a signature of their own; the other bytes are taken as they come.
func FuzzCalls(f *testing.F) {
	pub, sig := signed([]byte("m"))
	f.Add(pub, []byte("m"), sig, []byte{5}, []byte{7}, uint8(0))
	for i, e := range smalls() {
		f.Add(e.bytes(), []byte{}, slices.Concat(neutral().bytes(), make([]byte, 32)), order.Bytes(), prime.Bytes(), uint8(i))
	}
	f.Add([]byte{}, []byte{}, []byte{}, []byte{}, []byte{}, uint8(9))
	f.Fuzz(func(t *testing.T, pub, message, sig, a, n []byte, which uint8) {
		if len(pub) > 200 || len(sig) > 400 || len(a) > 200 || len(n) > 200 {
			return
		}
		holdDecode(t, pub)
		holdVerify(t, "13.4", pub, message, sig)
		k, m := new(big.Int).SetBytes(a), new(big.Int).SetBytes(n)
		e := smalls()[which%8]
		s := next(m)[0].add(e)
		hold(t, limbs(k), s.point(), base().add(e).point())
		hold(t, limbs(m), api.Point{X: limbs(k), Y: limbs(m), Inf: which > 200}, s.point())
		back := added(t, added(t, s.point(), e.point()), e.neg().point())
		mustAgree(t, "13.5", back, s.point())
		if k.BitLen() > 1024 || m.BitLen() > 1024 {
			return
		}
		o := signerOf(k)
		mustVerify(t, "13.6", api.OK, o.pub, message, o.sign(message, m))
		if len(sig) == 64 {
			holdVerify(t, "13.4", o.pub, message, sig)
		}
		if code := ed.Verify(o.pub, message, slices.Concat(o.sign(message, m)[:32], low(order))); code != api.ErrSignature {
			t.Fatalf("13.7: L is taken as S: %d", code)
		}
	})
}
