package curve_test

import (
	"bytes"
	"math/big"
	"math/rand"
	"slices"
	"sync"
	"testing"

	"signet/api"
	"signet/curve"
)

// laid: one list with all of them in it, marked items between and behind, and each as a piece of it, with all behind it as its spare room.
func laid[L ~[]E, E uint32 | byte](all ...L) (whole L, pieces []L) {
	mark := slices.Repeat(L{0x5a}, 20)
	var from []int
	for _, l := range all {
		from = append(from, len(whole))
		whole = slices.Concat(whole, l, mark)
	}
	whole = append(whole, make(L, 100)...)
	for i, l := range all {
		pieces = append(pieces, whole[from[i]:from[i]+len(l)])
	}
	return whole, pieces
}

// spoil changes every item, the spare room too.
func spoil[L ~[]E, E uint32 | byte](l L) {
	l = l[:cap(l)]
	for i := range l {
		l[i] = ^l[i]
	}
}

func copied[L ~[]E, E uint32 | byte](all []L) []L {
	out := make([]L, len(all))
	for i, l := range all {
		out[i] = slices.Clone(l)
	}
	return out
}

func alike[L ~[]E, E uint32 | byte](a, b []L) bool {
	return slices.EqualFunc(a, b, func(x, y L) bool { return slices.Equal(x, y) })
}

// holdMemory: of a call that takes lists and answers lists, P2 and P3. want: what it answers.
func holdMemory[L ~[]E, E uint32 | byte, M ~[]F, F uint32 | byte](t *testing.T, what string, want []M, call func(l []L) []M, given ...L) {
	t.Helper()
	whole, l := laid(given...)
	was := slices.Clone(whole)
	one, two := call(l), call(l)
	if !alike(one, want) || !alike(two, want) {
		t.Fatalf("P3: %s hangs on spare room, or on what was asked ahead", what)
	}
	if !slices.Equal(whole, was) {
		t.Fatalf("P2: %s changes what is handed in, or the room behind it", what)
	}
	for i := range one {
		left := copied(one)
		spoil(one[i])
		for j := range one {
			if j != i && !slices.Equal(one[j], left[j]) {
				t.Fatalf("P2: %s: two lists of one answer share memory", what)
			}
		}
	}
	if !slices.Equal(whole, was) || !alike(two, want) {
		t.Fatalf("P2: %s: an answer shares memory with another one, or with what was handed in", what)
	}
	if !alike(call(l), want) {
		t.Fatalf("P3: %s: what became of an answer shows in a later one", what)
	}
	spoil(whole)
	if !alike(two, want) {
		t.Fatalf("P2: %s: an answer goes with what was handed in", what)
	}
}

func parts(p api.Point, _ api.Errno) []api.Nat { return []api.Nat{p.X, p.Y} }

// some: points and what is none, proper and not.
func some(t *testing.T, c api.Crv) []api.Point {
	t.Helper()
	out := append(few(t, c), api.Point{}, multiple(other(c), 1), api.Point{X: small(1), Inf: true})
	for _, p := range few(t, c) {
		out = append(out, api.Point{X: padded(p.X, 1), Y: padded(p.Y, 3), Inf: p.Inf})
	}
	return out
}

func TestPointMemory(t *testing.T) {
	both(t, func(t *testing.T, c api.Crv) {
		all := some(t, c)
		for i, p := range all {
			holdMemory(t, "Neg", parts(wantNeg(c, p)), func(l []api.Nat) []api.Nat {
				return parts(curve.Neg(c, api.Point{X: l[0], Y: l[1], Inf: p.Inf}))
			}, p.X, p.Y)
			on := func(is bool) []api.Nat {
				if is {
					return []api.Nat{{1}}
				}
				return nil
			}
			holdMemory(t, "On", on(wantOn(c, p)), func(l []api.Nat) []api.Nat {
				return on(curve.On(c, api.Point{X: l[0], Y: l[1], Inf: p.Inf}))
			}, p.X, p.Y)
			x, y, _ := wantEncode(c, p)
			holdMemory(t, "Encode", [][]byte{x, y}, func(l []api.Nat) [][]byte {
				x, y, _ := curve.Encode(c, api.Point{X: l[0], Y: l[1], Inf: p.Inf})
				return [][]byte{x, y}
			}, p.X, p.Y)
			for _, q := range append(all[i:], all[:2]...) {
				holdMemory(t, "Add", parts(wantAdd(c, p, q)), func(l []api.Nat) []api.Nat {
					return parts(curve.Add(c, api.Point{X: l[0], Y: l[1], Inf: p.Inf}, api.Point{X: l[2], Y: l[3], Inf: q.Inf}))
				}, p.X, p.Y, q.X, q.Y)
			}
		}
	})
}

func TestScalarMemory(t *testing.T) {
	both(t, func(t *testing.T, c api.Crv) {
		n := known(c).n
		for i, p := range some(t, c) {
			for j, k := range []api.Nat{nil, {0, 0}, {1}, {1, 0}, {2}, {5, 0, 0}, padded(limbs(n), i%2), limbs(plus(n, 1)), limbs(power(1024))} {
				holdMemory(t, "Mul", parts(wantMul(c, k, p)), func(l []api.Nat) []api.Nat {
					return parts(curve.Mul(c, l[0], api.Point{X: l[1], Y: l[2], Inf: p.Inf}))
				}, k, p.X, p.Y)
				a := []api.Nat{nil, {1}, {3, 0}}[(i+j)%3]
				holdMemory(t, "Joint", parts(wantJoint(c, a, k, p)), func(l []api.Nat) []api.Nat {
					return parts(curve.Joint(c, l[0], l[1], api.Point{X: l[2], Y: l[3], Inf: p.Inf}))
				}, a, k, p.X, p.Y)
			}
		}
	})
}

func TestDecodeMemory(t *testing.T) {
	both(t, func(t *testing.T, c api.Crv) {
		for _, p := range some(t, c) {
			x, y := wide(c, value(p.X)), wide(c, value(p.Y))
			for _, l := range [][2][]byte{{x, y}, {x[1:], y}, {x, nil}, {y, x}} {
				holdMemory(t, "Decode", parts(wantDecode(c, l[0], l[1])), func(l [][]byte) []api.Nat { return parts(curve.Decode(c, l[0], l[1])) }, l[0], l[1])
			}
		}
	})
}

// What the package keeps is not handed out: with every answer spoiled all calls answer as ahead of it.
func TestConstantsMemory(t *testing.T) {
	for range 3 {
		for _, c := range curves {
			w := known(c)
			holdMemory(t, "Field, Order and Base", []api.Nat{limbs(w.p), limbs(w.n), limbs(w.x), limbs(w.y)}, func([]api.Nat) []api.Nat {
				g := curve.Base(c)
				return []api.Nat{curve.Field(c), curve.Order(c), g.X, g.Y}
			})
			holdMul(t, c, api.Nat{12345, 6}, curve.Base(c))
			holdJoint(t, c, api.Nat{7}, api.Nat{8}, multiple(c, 2))
			holdEncode(t, c, curve.Base(c))
		}
	}
}

// One list in several places, and pieces of one list that overlap: a point's coordinates as scalars, one point twice.
func TestPieces(t *testing.T) {
	both(t, func(t *testing.T, c api.Crv) {
		r := rand.New(rand.NewSource(41))
		for _, p := range few(t, c) {
			run := slices.Concat(p.X, p.Y, api.Nat{0, 0, 1})
			was := slices.Clone(run)
			p = api.Point{X: run[:len(p.X)], Y: run[len(p.X) : len(p.X)+len(p.Y)], Inf: p.Inf}
			for range 3 {
				from, to := r.Intn(len(run)), r.Intn(len(run)+1)
				k := run[min(from, to):max(from, to)]
				holdAdd(t, c, p, p)
				holdAdd(t, c, p, api.Point{X: p.X, Y: p.X, Inf: p.Inf})
				holdMul(t, c, k, p)
				holdMul(t, c, p.X, p)
				holdJoint(t, c, k, k, p)
				holdJoint(t, c, p.Y, k, p)
				got, _ := curve.Joint(c, k, p.X, p)
				spoil(got.X)
				spoil(got.Y)
				if !slices.Equal(run, was) {
					t.Fatalf("P2: a list is changed of which pieces were handed in")
				}
			}
		}
		x := wide(c, known(c).x)
		if holdDecode(t, c, x, x); !bytes.Equal(x, wide(c, known(c).x)) {
			t.Fatalf("P2: Decode changes its bytes")
		}
	})
}

// Very many noughts on top, of every number: the answer is the same, and it comes.
func TestManyNoughts(t *testing.T) {
	both(t, func(t *testing.T, c api.Crv) {
		p, q := multiple(c, 5), multiple(c, -9)
		long := func(p api.Point) api.Point {
			return api.Point{X: padded(p.X, 1<<18), Y: padded(p.Y, 1<<18), Inf: p.Inf}
		}
		k := limbs(plus(known(c).n, -77))
		want, _ := wantJoint(c, k, k, p)
		got, code := curve.Joint(c, padded(k, 1<<18), padded(k, 1<<18), long(p))
		mustBe(t, "11.6", "Joint with many noughts", got, code, want, api.OK)
		want, _ = wantAdd(c, p, q)
		got, code = curve.Add(c, long(p), long(q))
		mustBe(t, "11.4", "Add with many noughts", got, code, want, api.OK)
		want, _ = wantNeg(c, p)
		got, code = curve.Neg(c, long(p))
		mustBe(t, "11.3", "Neg with many noughts", got, code, want, api.OK)
		got, code = curve.Neg(c, long(infinite()))
		mustBe(t, "11.3", "Neg of O with many noughts", got, code, infinite(), api.OK)
		holdEncode(t, c, api.Point{X: padded(p.X, 3000), Y: padded(p.Y, 3000)})
	})
}

func TestAtOnce(t *testing.T) {
	type row struct {
		c    api.Crv
		k    api.Nat
		p, q api.Point
		want api.Point
	}
	var rows []row
	r := rand.New(rand.NewSource(42))
	for _, c := range curves {
		for i := range 4 {
			k := limbs(new(big.Int).Rand(r, power(100)))
			p, q := multiple(c, int64(i)-1), multiple(c, 3)
			want, _ := wantJoint(c, k, k, p)
			rows = append(rows, row{c, k, p, q, want})
		}
	}
	var wg sync.WaitGroup
	for worker := range 8 {
		wg.Go(func() {
			for i := range rows {
				l := rows[(i+worker)%len(rows)]
				if got, code := curve.Joint(l.c, l.k, l.k, l.p); code != api.OK || !same(got, l.want) {
					t.Errorf("P3: worker %d: Joint(%s) = %s, %d", worker, told(l.c, l.k, l.k, l.p), told(got), code)
				}
				want, _ := wantAdd(l.c, l.p, l.q)
				if got, code := curve.Add(l.c, l.p, l.q); code != api.OK || !same(got, want) {
					t.Errorf("P3: worker %d: Add(%s) = %s, %d", worker, told(l.c, l.p, l.q), told(got), code)
				}
				spoil(curve.Base(l.c).X)
				spoil(curve.Order(l.c))
			}
		})
	}
	wg.Wait()
}
