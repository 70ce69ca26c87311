package nat_test

import (
	"bytes"
	"math"
	"math/rand"
	"slices"
	"testing"

	"signet/api"
	"signet/nat"
)

// answer: all that a call hands out.
type answer struct {
	numbers []api.Nat
	bytes   []byte
	plain   [2]uint64
}

func truth(ok bool) uint64 {
	if ok {
		return 1
	}
	return 0
}

// call: one of the calls that take numbers; what it does not take is left away.
type call struct {
	name string
	ask  func(a, b api.Nat, k int) answer
}

func calls() []call {
	return []call{
		{"Bytes", func(a, _ api.Nat, _ int) answer { return answer{bytes: nat.Bytes(a)} }},
		{"Fixed", func(a, _ api.Nat, k int) answer {
			b, ok := nat.Fixed(a, k)
			return answer{bytes: b, plain: [2]uint64{truth(ok)}}
		}},
		{"Uint", func(a, _ api.Nat, _ int) answer {
			u, ok := nat.Uint(a)
			return answer{plain: [2]uint64{u, truth(ok)}}
		}},
		{"Cmp", func(a, b api.Nat, _ int) answer { return answer{plain: [2]uint64{uint64(nat.Cmp(a, b))}} }},
		{"Add", func(a, b api.Nat, _ int) answer { return answer{numbers: []api.Nat{nat.Add(a, b)}} }},
		{"Sub", func(a, b api.Nat, _ int) answer {
			n, ok := nat.Sub(a, b)
			return answer{numbers: []api.Nat{n}, plain: [2]uint64{truth(ok)}}
		}},
		{"Mul", func(a, b api.Nat, _ int) answer { return answer{numbers: []api.Nat{nat.Mul(a, b)}} }},
		{"DivMod", func(a, b api.Nat, _ int) answer {
			q, r, code := nat.DivMod(a, b)
			return answer{numbers: []api.Nat{q, r}, plain: [2]uint64{uint64(code)}}
		}},
		{"Bits", func(a, _ api.Nat, _ int) answer { return answer{plain: [2]uint64{uint64(nat.Bits(a))}} }},
		{"Bit", func(a, _ api.Nat, k int) answer { return answer{plain: [2]uint64{truth(nat.Bit(a, k))}} }},
		{"Shl", func(a, _ api.Nat, k int) answer { return answer{numbers: []api.Nat{nat.Shl(a, k)}} }},
		{"Shr", func(a, _ api.Nat, k int) answer { return answer{numbers: []api.Nat{nat.Shr(a, k)}} }},
	}
}

func alike(x, y answer) bool {
	return x.plain == y.plain && bytes.Equal(x.bytes, y.bytes) && slices.EqualFunc(x.numbers, y.numbers, slices.Equal)
}

func whole(n api.Nat) api.Nat { return n[:cap(n)] }

// roomy: a copy of n with a sign in each limb of its spare room.
func roomy(n api.Nat) api.Nat {
	out := append(make(api.Nat, 0, len(n)+50), n...)
	for i := len(n); i < cap(out); i++ {
		whole(out)[i] = 0x5a5a5a5a
	}
	return out
}

// turn changes every limb, the spare room too.
func turn(n api.Nat) {
	for i := range whole(n) {
		whole(n)[i] ^= top
	}
}

// apart: does no list of an answer change with another one? It uses the answer up.
func apart(x answer) bool {
	for i, n := range x.numbers {
		for j, other := range x.numbers {
			was := slices.Clone(whole(other))
			turn(n)
			if i != j && !slices.Equal(whole(other), was) {
				return false
			}
			turn(n)
		}
		turn(n)
	}
	for i := range x.bytes[:cap(x.bytes)] {
		x.bytes[:cap(x.bytes)][i] ^= 0xff
	}
	return true
}

// Numbers of every shape for the tests of memory: answers that could be an argument itself (a rest that is the number, a shift by nought, a sum with nought) among them.
func shapes() []api.Nat {
	r := rand.New(rand.NewSource(12))
	out := []api.Nat{nil, {}, {0}, {0, 0}, {1}, {1, 0}, {2}, {top}, {7, 1 << 31}, {top, top, 0}, {0, 0, 0x80000000, 0x7fffffff}, {1, 0, 0x80000000}}
	for range 8 {
		out = append(out, drawn(r, 12))
	}
	return out
}

func TestHandedInAndOut(t *testing.T) {
	for _, c := range calls() {
		for _, n := range shapes() {
			for _, m := range shapes() {
				for _, k := range []int{-1, 0, 1, 32, 40, 64} {
					a, b := roomy(n), roomy(m)
					one, two, plain := c.ask(a, b, k), c.ask(a, b, k), c.ask(slices.Clip(slices.Clone(n)), slices.Clip(slices.Clone(m)), k)
					if !alike(one, plain) || !alike(two, plain) {
						t.Fatalf("P3: %s(%x, %x, %d) hangs on spare room, or on what was asked ahead", c.name, n, m, k)
					}
					same := func() bool {
						return slices.Equal(whole(a), whole(roomy(n))) && slices.Equal(whole(b), whole(roomy(m)))
					}
					if !same() {
						t.Fatalf("P2: %s(%x, %x, %d) changes what is handed in", c.name, n, m, k)
					}
					if !apart(one) {
						t.Fatalf("P2: %s(%x, %x, %d): two lists of one answer share memory", c.name, n, m, k)
					}
					if !same() || !alike(two, plain) {
						t.Fatalf("P2: %s(%x, %x, %d): an answer shares memory with another one, or with what was handed in", c.name, n, m, k)
					}
					if !alike(c.ask(a, b, k), plain) {
						t.Fatalf("P3: %s(%x, %x, %d): a changed answer shows in a later one", c.name, n, m, k)
					}
					turn(a)
					turn(b)
					if !alike(two, plain) {
						t.Fatalf("P2: %s(%x, %x, %d): an answer goes with what was handed in", c.name, n, m, k)
					}
				}
			}
		}
	}
}

// One list as both numbers, and two pieces of one list: beside each other, one within the other, overlapping; the room behind the first holds the second.
func TestPieces(t *testing.T) {
	r := rand.New(rand.NewSource(13))
	for round := range 60 {
		run := make(api.Nat, 16)
		for i := range run {
			run[i] = []uint32{r.Uint32(), top, 0, 1}[min(r.Intn(1+round), 3)]
		}
		was := slices.Clone(run)
		for _, c := range calls() {
			for range 40 {
				from, to := r.Intn(9), r.Intn(9)
				a, b := run[from:from+r.Intn(8)], run[to:to+r.Intn(8)]
				for _, pair := range [][2]api.Nat{{a, a}, {a, b}, {b, a}, {run, b}, {a, run}, {run[:5], run[5:9]}} {
					k := r.Intn(100) - 5
					want := c.ask(slices.Clone(pair[0]), slices.Clone(pair[1]), k)
					got := c.ask(pair[0], pair[1], k)
					if !alike(got, want) {
						t.Fatalf("P2: %s of pieces of one list, %x and %x, %d", c.name, pair[0], pair[1], k)
					}
					if !apart(got) || !slices.Equal(run, was) {
						t.Fatalf("P2: %s changes a list of which it was handed pieces, %x and %x, %d, or shares it", c.name, pair[0], pair[1], k)
					}
				}
			}
		}
	}
}

func TestSameNumberTwice(t *testing.T) {
	for _, n := range append(edges(), shapes()...) {
		holdPair(t, n, n)
	}
}

func TestBytesIn(t *testing.T) {
	for n := range 40 {
		b := append(make([]byte, 0, n+30), make([]byte, n)...)
		rand.New(rand.NewSource(int64(n))).Read(b[:cap(b)])
		was := slices.Clone(b[:cap(b)])
		one, two := nat.FromBytes(b), nat.FromBytes(slices.Clip(slices.Clone(b)))
		if !bytes.Equal(b[:cap(b)], was) {
			t.Fatalf("P2: FromBytes changes %d bytes, or their spare room", n)
		}
		if !slices.Equal(one, two) {
			t.Fatalf("P3: FromBytes of %d bytes hangs on spare room", n)
		}
		turn(one)
		if !slices.Equal(nat.FromBytes(b), two) || !bytes.Equal(b[:cap(b)], was) {
			t.Fatalf("P2: an answer of FromBytes of %d bytes is kept", n)
		}
	}
	one := nat.FromUint(1 << 40)
	turn(one)
	if !slices.Equal(nat.FromUint(1<<40), api.Nat{0, 256}) {
		t.Error("P2: an answer of FromUint is kept")
	}
}

// P1: each call, with each number and every wild argument, ends without a panic, and answers proper numbers.
func TestWild(t *testing.T) {
	wild := []int{math.MinInt, math.MinInt + 1, math.MinInt32 - 1, math.MinInt32, -1 << 17, -33, -32, -31, -1, 0, 1, 31, 32, 33, 1 << 14, 1<<14 + 1, 1 << 17, 1<<17 + 1, math.MaxInt32, math.MaxInt32 + 1, math.MaxUint32, math.MaxUint32 + 1, math.MaxInt - 1, math.MaxInt}
	for _, c := range calls() {
		for _, n := range shapes() {
			for _, k := range wild {
				for _, got := range c.ask(n, api.Nat{0, 3, 0}, k).numbers {
					if len(got) > 0 && got[len(got)-1] == 0 {
						t.Errorf("P5: %s(%x, .., %d) = %x is not proper", c.name, n, k, got)
					}
				}
			}
		}
	}
}
