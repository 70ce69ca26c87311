package ecdsa_test

import (
	"bytes"
	"math/big"
	"math/rand"
	"slices"
	"sync"
	"testing"

	"signet/api"
	"signet/ecdsa"
)

// laid: one list with all of them in it, marked items between and behind, and each as a piece of it, with all behind it as its spare room.
func laid[L ~[]E, E uint32 | byte](all ...L) (whole L, pieces []L) {
	mark := slices.Repeat(L{0x5a}, 20)
	var from []int
	for _, l := range all {
		from = append(from, len(whole))
		whole = slices.Concat(whole, l, mark)
	}
	whole = append(whole, make(L, 100)...)
	for i, l := range all {
		pieces = append(pieces, whole[from[i]:from[i]+len(l)])
	}
	return whole, pieces
}

// spoil changes every item, the spare room too.
func spoil[L ~[]E, E uint32 | byte](l L) {
	l = l[:cap(l)]
	for i := range l {
		l[i] = ^l[i]
	}
}

func TestVerifyMemory(t *testing.T) {
	both(t, func(t *testing.T, c api.Crv) {
		message := []byte("a message")
		for _, h := range []api.Hash{1, 2, 3, 4} {
			x, y, sig := signed(max(1, min(h, 3)), c, message)
			for _, row := range [][4][]byte{{x, y, message, sig}, {x, y, message[1:], sig}, {x, y, message, sig[1:]}, {x, y, nil, ones(len(sig))}, {x[1:], y, message, sig}, {y, x, message, sig}, {nil, nil, nil, nil}} {
				want := wantVerify(h, c, row[0], row[1], row[2], row[3])
				mustVerify(t, "12.1", want, h, c, row[0], row[1], row[2], row[3])
				whole, l := laid(row[:]...)
				was := slices.Clone(whole)
				for range 2 {
					mustVerify(t, "P3: spare room, or what was asked ahead", want, h, c, l[0], l[1], l[2], l[3])
					if !bytes.Equal(whole, was) {
						t.Fatal("P2: Verify changes what is handed in, or the room behind it")
					}
				}
			}
		}
	})
}

// asked: a Recover with all that it takes.
type asked struct {
	h       api.Hash
	c       api.Crv
	message []byte
	r, s    api.Nat
	p       api.Point
}

// someAsked: such that are answered, and such that are refused.
func someAsked(c api.Crv) []asked {
	w := known(c)
	g, high := w.base(), next(c, plus(w.n, 1))[0]
	r, less := limbs(g.x), limbs(new(big.Int).Sub(high.x, w.n))
	message := []byte("a message")
	z := limbs(new(big.Int).Mod(w.z(api.SHA256, message), w.n))
	long := api.Point{X: padded(limbs(g.x), 1), Y: padded(limbs(g.y), 3)}
	return []asked{
		{api.SHA256, c, message, r, api.Nat{1}, g.point()},
		{api.SHA384, c, nil, less, limbs(plus(w.n, -1)), high.point()},
		{api.SHA512, c, message, padded(r, 1), api.Nat{7, 0, 0}, long},
		{api.SHA256, c, message, r, z, g.point()},
		{4, c, message, r, api.Nat{1}, g.point()},
		{api.SHA256, 3, message, r, api.Nat{1}, g.point()},
		{api.SHA256, c, message, r, api.Nat{1}, api.Point{Inf: true}},
		{api.SHA256, c, message, r, nil, g.point()},
		{api.SHA256, c, nil, api.Nat{1}, api.Nat{1}, long},
	}
}

func TestRecoverMemory(t *testing.T) {
	both(t, func(t *testing.T, c api.Crv) {
		for _, a := range someAsked(c) {
			wantX, wantY, want := wantRecover(a.h, a.c, a.message, a.r, a.s, a.p)
			limbsLaid, l := laid(a.r, a.s, a.p.X, a.p.Y)
			bytesLaid, m := laid(a.message)
			was, wasBytes := slices.Clone(limbsLaid), slices.Clone(bytesLaid)
			untouched := func() bool { return slices.Equal(limbsLaid, was) && bytes.Equal(bytesLaid, wasBytes) }
			ask := func() (x, y []byte) {
				x, y, code := ecdsa.Recover(a.h, a.c, m[0], l[0], l[1], api.Point{X: l[2], Y: l[3], Inf: a.p.Inf})
				if code != want || !bytes.Equal(x, wantX) || !bytes.Equal(y, wantY) {
					t.Fatalf("P3: Recover hangs on spare room, or on what was asked ahead: %x, %x, %d", x, y, code)
				}
				if !untouched() {
					t.Fatal("P2: Recover changes what is handed in, or the room behind it")
				}
				return x, y
			}
			x, y := ask()
			u, v := ask()
			spoil(x)
			if !bytes.Equal(y, wantY) {
				t.Fatal("P2: Recover: two lists of one answer share memory")
			}
			spoil(y)
			if !untouched() || !bytes.Equal(u, wantX) || !bytes.Equal(v, wantY) {
				t.Fatal("P2: Recover: an answer shares memory with another one, or with what was handed in")
			}
			ask()
			spoil(limbsLaid)
			spoil(bytesLaid)
			if !bytes.Equal(u, wantX) || !bytes.Equal(v, wantY) {
				t.Fatal("P2: Recover: an answer goes with what was handed in")
			}
		}
	})
}

// The spare room of x and of y: neither can grow into the other.
func TestAnswersGrow(t *testing.T) {
	both(t, func(t *testing.T, c api.Crv) {
		w := known(c)
		x, y, code := ecdsa.Recover(api.SHA256, c, nil, limbs(w.x), api.Nat{3}, w.base().point())
		if code != api.OK {
			t.Fatalf("12.2: %d", code)
		}
		wasX, wasY := slices.Clone(x), slices.Clone(y)
		_ = append(x, ones(100)...)
		_ = append(y, ones(100)...)
		spoil(x[len(x):])
		spoil(y[len(y):])
		if !bytes.Equal(x, wasX) || !bytes.Equal(y, wasY) {
			t.Fatal("P2: the spare room of one answer is the other one")
		}
	})
}

// One list in several places, and pieces of one list that overlap.
func TestPieces(t *testing.T) {
	both(t, func(t *testing.T, c api.Crv) {
		rnd := rand.New(rand.NewSource(31))
		w := known(c)
		message := []byte("a message")
		x, y, sig := signed(api.SHA256, c, message)
		run := slices.Concat(sig, x, y, message)
		was := slices.Clone(run)
		from := func(at, size int) []byte { return run[at : at+size] }
		two := 2 * w.size
		mustVerify(t, "12.1", api.OK, api.SHA256, c, from(two, w.size), from(two+w.size, w.size), run[2*two:], from(0, two))
		for range 10 {
			at := rnd.Intn(two)
			holdVerify(t, "12.1", hashes[rnd.Intn(3)], c, from(two, w.size), from(two+w.size, w.size), from(rnd.Intn(50), rnd.Intn(50)), from(at, two))
			holdVerify(t, "12.1", api.SHA256, c, from(at, w.size), from(at, w.size), from(at, two), from(at, two))
		}
		o := signerOf(c, big.NewInt(777))
		r, s := o.sign(api.SHA512, o.x, big.NewInt(555)) // the key's x as the message
		mustVerify(t, "12.1", api.OK, api.SHA512, c, o.x, o.y, o.x, joined(c, r, s))
		if !bytes.Equal(run, was) {
			t.Fatal("P2: a list is changed of which pieces were handed in")
		}
		// The point's x as r, and as s: one list three times.
		gx := limbs(w.x)
		keep := slices.Clone(gx)
		holdRecover(t, api.SHA256, c, nil, gx, gx, api.Point{X: gx, Y: limbs(w.y)})
		if !slices.Equal(gx, keep) {
			t.Fatal("P2: a list is changed that was handed in three times")
		}
	})
}

// Very many noughts on top, of every number: the answer is the same, and it comes.
func TestManyNoughts(t *testing.T) {
	both(t, func(t *testing.T, c api.Crv) {
		w := known(c)
		many := 1 << 18
		p := api.Point{X: padded(limbs(w.x), many), Y: padded(limbs(w.y), many)}
		if got := holdRecover(t, api.SHA256, c, []byte("m"), padded(limbs(w.x), many), padded(api.Nat{5}, many), p); got != api.OK {
			t.Fatalf("12.2: %d", got)
		}
		mustRefuse(t, "12.2", api.ErrSignature, api.SHA256, c, []byte("m"), append(make(api.Nat, many), 1), api.Nat{5}, p)
		mustRefuse(t, "12.2", api.ErrSignature, api.SHA256, c, []byte("m"), limbs(w.x), append(make(api.Nat, many), 1), p)
	})
}

func TestAtOnce(t *testing.T) {
	t.Parallel()
	message := []byte("a message")
	var wg sync.WaitGroup
	for worker := range 8 {
		c, h := curves[worker%2], hashes[worker%3]
		x, y, sig := signed(h, c, message)
		w := known(c)
		a := asked{h, c, message, limbs(w.x), api.Nat{uint32(worker) + 1}, w.base().point()}
		wantX, wantY, _ := wantRecover(a.h, a.c, a.message, a.r, a.s, a.p)
		wg.Go(func() {
			for range 5 {
				if got := ecdsa.Verify(h, c, x, y, message, sig); got != api.OK {
					t.Errorf("P3: worker %d: %d", worker, got)
				}
				if got := ecdsa.Verify(h, c, x, y, message, changed(sig, 5, 1)); got != api.ErrSignature {
					t.Errorf("P3: worker %d: %d", worker, got)
				}
				u, v, code := ecdsa.Recover(a.h, a.c, a.message, a.r, a.s, a.p)
				if code != api.OK || !bytes.Equal(u, wantX) || !bytes.Equal(v, wantY) {
					t.Errorf("P3: worker %d: %x, %x, %d", worker, u, v, code)
				}
				spoil(u)
				spoil(v)
			}
		})
	}
	wg.Wait()
}
