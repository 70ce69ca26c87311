package ed_test

import (
	"math/big"
	"math/rand"
	"slices"
	"sync"
	"testing"

	"signet/api"
	"signet/ed"
)

// laid: one list with all of them in it, marked items between and behind, and each as a piece of it, with all behind it as its spare room.
func laid[L ~[]E, E uint32 | byte](all ...L) (whole L, pieces []L) {
	mark := slices.Repeat(L{0x5a}, 20)
	var from []int
	for _, l := range all {
		from = append(from, len(whole))
		whole = slices.Concat(whole, l, mark)
	}
	whole = append(whole, make(L, 100)...)
	for i, l := range all {
		pieces = append(pieces, whole[from[i]:from[i]+len(l)])
	}
	return whole, pieces
}

// spoil changes every item, the spare room too.
func spoil[L ~[]E, E uint32 | byte](l L) {
	l = l[:cap(l)]
	for i := range l {
		l[i] = ^l[i]
	}
}

func copied[L ~[]E, E uint32 | byte](all []L) []L {
	out := make([]L, len(all))
	for i, l := range all {
		out[i] = slices.Clone(l)
	}
	return out
}

// roomy: the lists with all of their spare room.
func roomy[L ~[]E, E uint32 | byte](all []L) []L {
	out := make([]L, len(all))
	for i, l := range all {
		out[i] = l[:cap(l)]
	}
	return out
}

func alike[L ~[]E, E uint32 | byte](a, b []L) bool {
	return slices.EqualFunc(a, b, func(x, y L) bool { return slices.Equal(x, y) })
}

// holdMemory: of a call that takes lists and answers lists, P2 and P3. want: what it answers.
func holdMemory[L ~[]E, E uint32 | byte, M ~[]F, F uint32 | byte](t *testing.T, what string, want []M, call func(l []L) []M, given ...L) {
	t.Helper()
	whole, l := laid(given...)
	was := slices.Clone(whole)
	one, two := call(l), call(l)
	if !alike(one, want) || !alike(two, want) {
		t.Fatalf("P3: %s hangs on spare room, or on what was asked ahead", what)
	}
	if !slices.Equal(whole, was) {
		t.Fatalf("P2: %s changes what is handed in, or the room behind it", what)
	}
	other := copied(roomy(two))
	for i := range one {
		left := copied(roomy(one))
		spoil(one[i])
		for j := range one {
			if j != i && !slices.Equal(one[j][:cap(one[j])], left[j]) {
				t.Fatalf("P2: %s: two lists of one answer share memory", what)
			}
		}
	}
	if !slices.Equal(whole, was) || !alike(roomy(two), other) {
		t.Fatalf("P2: %s: an answer shares memory with another one, or with what was handed in", what)
	}
	if !alike(call(l), want) {
		t.Fatalf("P3: %s: what became of an answer shows in a later one", what)
	}
	spoil(whole)
	if !alike(roomy(two), other) {
		t.Fatalf("P2: %s: an answer goes with what was handed in", what)
	}
}

func parts(p api.Point, _ api.Errno) []api.Nat { return []api.Nat{p.X, p.Y} }

func one(b []byte, _ api.Errno) [][]byte { return [][]byte{b} }

// some: points and what is none, proper and not.
func some(t *testing.T) []api.Point {
	t.Helper()
	out := []api.Point{{}, {X: base().point().Y, Y: base().point().X}, {X: api.Nat{1}, Inf: true}, {Y: api.Nat{1}, Inf: true}}
	for _, s := range few(t) {
		out = append(out, s.point(), paddedPoint(s.point(), 1, 3))
	}
	return out
}

func TestPointMemory(t *testing.T) {
	t.Parallel()
	all := some(t)
	for i, p := range all {
		b, code := wantEncode(p)
		holdMemory(t, "Encode", one(b, code), func(l []api.Nat) [][]byte {
			return one(ed.Encode(api.Point{X: l[0], Y: l[1], Inf: p.Inf}))
		}, p.X, p.Y)
		for _, q := range append(all[i:], all[:2]...) {
			holdMemory(t, "Add", parts(wantAdd(p, q)), func(l []api.Nat) []api.Nat {
				return parts(ed.Add(api.Point{X: l[0], Y: l[1], Inf: p.Inf}, api.Point{X: l[2], Y: l[3], Inf: q.Inf}))
			}, p.X, p.Y, q.X, q.Y)
		}
		for _, k := range []api.Nat{nil, {0, 0}, {1}, {1, 0}, {2}, {5, 0, 0}, padded(limbs(order), i%2), limbs(plus(order, 1)), limbs(power(1024))} {
			holdMemory(t, "Mul", parts(wantMul(k, p)), func(l []api.Nat) []api.Nat {
				return parts(ed.Mul(l[0], api.Point{X: l[1], Y: l[2], Inf: p.Inf}))
			}, k, p.X, p.Y)
		}
	}
}

func TestDecodeMemory(t *testing.T) {
	t.Parallel()
	rows := [][]byte{nil, {}, make([]byte, 31), make([]byte, 33)}
	for _, s := range points(t) {
		rows = append(rows, s.bytes(), changed(s.bytes(), 31, 0x80), changed(s.bytes(), 0, 1))
	}
	for _, key := range wrongKeys(base().bytes()) {
		rows = append(rows, key)
	}
	for _, b := range rows {
		holdMemory(t, "Decode", parts(wantDecode(b)), func(l [][]byte) []api.Nat { return parts(ed.Decode(l[0])) }, b)
	}
}

func TestVerifyMemory(t *testing.T) {
	t.Parallel()
	message := []byte("a message")
	pub, sig := signed(message)
	tell := func(code api.Errno) [][]byte { return [][]byte{{byte(code)}} }
	for _, row := range [][3][]byte{
		{pub, message, sig}, {pub, nil, sig}, {pub, message, sig[:63]}, {pub[:31], message, sig}, {pub, message, changed(sig, 2, 4)}, {pub, message, changed(sig, 63, 0x80)}, {changed(pub, 31, 0x80), message, sig}, {nil, nil, nil}, {neutral().bytes(), message, slices.Concat(neutral().bytes(), make([]byte, 32))},
	} {
		holdMemory(t, "Verify", tell(wantVerify(row[0], row[1], row[2])), func(l [][]byte) [][]byte { return tell(ed.Verify(l[0], l[1], l[2])) }, row[0], row[1], row[2])
	}
}

// What the package keeps is not handed out: with every answer spoiled all calls answer as ahead of it.
func TestConstantsMemory(t *testing.T) {
	message := []byte("a message")
	pub, sig := signed(message)
	for range 3 {
		holdMemory(t, "Order and Base", []api.Nat{limbs(order), limbs(base().x), limbs(base().y)}, func([]api.Nat) []api.Nat {
			b := ed.Base()
			return []api.Nat{ed.Order(), b.X, b.Y}
		}, api.Nat{1})
		holdMul(t, api.Nat{12345, 6}, ed.Base())
		holdEncode(t, ed.Base())
		mustVerify(t, "P3", api.OK, pub, message, sig)
		got, _ := ed.Decode(pub)
		spoil(got.X)
		spoil(got.Y)
		holdDecode(t, pub)
	}
}

// One list in several places, and pieces of one list that overlap: a point's coordinates as scalars, one point twice, a key within a message.
func TestPieces(t *testing.T) {
	t.Parallel()
	r := rand.New(rand.NewSource(51))
	for _, s := range few(t) {
		run := slices.Concat(limbs(s.x), limbs(s.y), api.Nat{0, 0, 1})
		was := slices.Clone(run)
		n, m := len(limbs(s.x)), len(limbs(s.x))+len(limbs(s.y))
		p := api.Point{X: run[:n], Y: run[n:m]}
		for range 3 {
			from, to := r.Intn(len(run)), r.Intn(len(run)+1)
			k := run[min(from, to):max(from, to)]
			holdAdd(t, p, p)
			holdAdd(t, p, api.Point{X: p.X, Y: p.X})
			holdMul(t, k, p)
			holdMul(t, p.X, p)
			got, _ := ed.Mul(p.Y, p)
			spoil(got.X)
			spoil(got.Y)
			if !slices.Equal(run, was) {
				t.Fatal("P2: a list is changed of which pieces were handed in")
			}
		}
	}
	o := signerOf(big.NewInt(77))
	whole := slices.Concat(o.pub, o.sign(o.pub, big.NewInt(78)), o.pub)
	was := slices.Clone(whole)
	mustVerify(t, "13.4: the key as the message", api.OK, whole[:32], whole[:32], whole[32:96])
	holdVerify(t, "13.4", whole[:32], whole, whole[32:96])
	holdVerify(t, "13.4", whole[96:], whole[:96], whole[:64])
	if !slices.Equal(whole, was) {
		t.Fatal("P2: a list is changed of which pieces were handed in")
	}
}

// Very many noughts on top, of every number: the answer is the same, and it comes.
func TestManyNoughts(t *testing.T) {
	t.Parallel()
	p, q := multiple(5).point(), next(big.NewInt(9))[0].point()
	long := func(p api.Point) api.Point { return paddedPoint(p, 1<<18, 1<<18) }
	k := limbs(plus(order, -77))
	want, _ := wantMul(k, q)
	got, code := ed.Mul(padded(k, 1<<18), long(q))
	mustBe(t, "13.3", "Mul with many noughts", got, code, want, api.OK)
	want, _ = wantAdd(p, q)
	got, code = ed.Add(long(p), long(q))
	mustBe(t, "13.3", "Add with many noughts", got, code, want, api.OK)
	holdEncode(t, paddedPoint(p, 3000, 3000))
}

func TestAtOnce(t *testing.T) {
	t.Parallel()
	type row struct {
		k         api.Nat
		p, q      api.Point
		mul, add  api.Point
		pub, sig  []byte
		message   []byte
		bad, code api.Errno
	}
	var rows []row
	r := rand.New(rand.NewSource(52))
	for i, s := range few(t)[:8] {
		k, p, q := limbs(drawn(r, 100)), s.point(), multiple(int64(i)).point()
		mul, _ := wantMul(k, p)
		add, _ := wantAdd(p, q)
		message := []byte{byte(i)}
		pub, sig := signed(message)
		rows = append(rows, row{k, p, q, mul, add, pub, sig, message, api.ErrSignature, api.OK})
	}
	var wg sync.WaitGroup
	for worker := range 8 {
		wg.Go(func() {
			for i := range rows {
				l := rows[(i+worker)%len(rows)]
				if got, code := ed.Mul(l.k, l.p); code != api.OK || !same(got, l.mul) {
					t.Errorf("P3: worker %d: Mul(%s) = %s, %d", worker, told(l.k, l.p), told(got), code)
				}
				if got, code := ed.Add(l.p, l.q); code != api.OK || !same(got, l.add) {
					t.Errorf("P3: worker %d: Add(%s) = %s, %d", worker, told(l.p, l.q), told(got), code)
				}
				if good, bad := ed.Verify(l.pub, l.message, l.sig), ed.Verify(l.pub, nil, l.sig); good != l.code || bad != l.bad {
					t.Errorf("P3: worker %d: Verify(%s): %d, %d", worker, told(l.pub, l.message, l.sig), good, bad)
				}
				spoil(ed.Base().X)
				spoil(ed.Order())
			}
		})
	}
	wg.Wait()
}
