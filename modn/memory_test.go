package modn_test

import (
	"math/rand"
	"slices"
	"sync"
	"testing"

	"signet/api"
)

const mark = 0x5a5a5a5a

// laid: a list with three numbers and marked limbs between and behind them, and the numbers as pieces of it, each with all behind it as its spare room.
func laid(numbers ...api.Nat) (whole api.Nat, pieces [3]api.Nat) {
	var from [3]int
	for i, n := range numbers {
		from[i] = len(whole)
		whole = slices.Concat(whole, n, slices.Repeat(api.Nat{mark}, 20))
	}
	for i, n := range numbers {
		pieces[i] = whole[from[i] : from[i]+len(n)]
	}
	return whole, pieces
}

// spoil changes every limb, the spare room too.
func spoil(n api.Nat) {
	n = n[:cap(n)]
	for i := range n {
		n[i] ^= full
	}
}

// Numbers of every shape; answers that could be an argument itself (a rest that is the number, a power 1, an own inverse) among them.
func shapes() []api.Nat {
	out := []api.Nat{nil, {}, {0}, {0, 0}, {1}, {1, 0}, {2}, {2, 0, 0}, {3}, {6}, {full}, {7, 1 << 31}, {full, full, 0}, {0, 0, 1}, power(4096)}
	r := rand.New(rand.NewSource(7))
	for range 4 {
		out = append(out, drawn(r, 6))
	}
	return out
}

func TestHandedInAndOut(t *testing.T) {
	for _, c := range calls() {
		for _, a := range shapes() {
			for _, b := range shapes() {
				for _, m := range shapes() {
					holdMemory(t, c, a, b, m)
				}
			}
		}
	}
}

func holdMemory(t *testing.T, c call, a, b, m api.Nat) {
	t.Helper()
	whole, l := laid(a, b, m)
	was := slices.Clone(whole)
	want, wantCode := c.due(a, b, m)
	one, code := c.ask(l[0], l[1], l[2])
	two, again := c.ask(l[0], l[1], l[2])
	if code != wantCode || again != wantCode || !slices.Equal(one, want) || !slices.Equal(two, want) {
		t.Fatalf("P3: %s(%x, %x, %x) hangs on spare room, or on what was asked ahead", c.name, a, b, m)
	}
	if !slices.Equal(whole, was) {
		t.Fatalf("P2: %s(%x, %x, %x) changes what is handed in, or the room behind it", c.name, a, b, m)
	}
	spoil(one)
	if !slices.Equal(whole, was) || !slices.Equal(two, want) {
		t.Fatalf("P2: %s(%x, %x, %x): an answer shares memory with another one, or with what was handed in", c.name, a, b, m)
	}
	if three, _ := c.ask(l[0], l[1], l[2]); !slices.Equal(three, want) {
		t.Fatalf("P3: %s(%x, %x, %x): a changed answer shows in a later one", c.name, a, b, m)
	}
	spoil(whole)
	if !slices.Equal(two, want) {
		t.Fatalf("P2: %s(%x, %x, %x): an answer goes with what was handed in", c.name, a, b, m)
	}
}

// One list in two or three places, and pieces of one list: beside each other, one within the other, overlapping.
func TestPieces(t *testing.T) {
	r := rand.New(rand.NewSource(8))
	for round := range 40 {
		run := make(api.Nat, 12)
		for i := range run {
			run[i] = []uint32{r.Uint32(), full, 0, 1}[min(r.Intn(1+round), 3)]
		}
		was := slices.Clone(run)
		piece := func() api.Nat {
			from := r.Intn(9)
			return run[from : from+r.Intn(4)]
		}
		for _, c := range calls() {
			for range 25 {
				a, b, m := piece(), piece(), piece()
				for _, l := range [][3]api.Nat{{a, b, m}, {a, a, m}, {a, b, a}, {b, m, m}, {a, a, a}, {run, b, m}, {a, b, run}, {run[:3], run[3:5], run[5:9]}} {
					c.hold(t, l[0], l[1], l[2])
					got, _ := c.ask(l[0], l[1], l[2])
					spoil(got)
					if !slices.Equal(run, was) {
						t.Fatalf("P2: %s changes a list of which it was handed pieces, or shares it: %x", c.name, l)
					}
				}
			}
		}
	}
}

// P5: a number is the same however many noughts stand on top of it, be they very many.
func TestManyNoughts(t *testing.T) {
	for _, c := range calls() {
		for _, m := range []api.Nat{{0x12345677, 9}, {0x12345678, 9}} {
			c.hold(t, padded(small(12345), 1<<16), padded(power(300), 1<<16), padded(m, 1<<16))
		}
	}
}

func TestAtOnce(t *testing.T) {
	a, b := api.Nat{1, 2, 3, 4, 5}, api.Nat{9, 8, 7}
	moduli := []api.Nat{{11, 12, 13, 14}, {10, 12, 13, 14}, {7}, {1}}
	var wg sync.WaitGroup
	for k := range 16 {
		wg.Go(func() {
			r := rand.New(rand.NewSource(int64(k)))
			for range 10 {
				n := drawn(r, 5)
				for _, m := range moduli {
					for _, c := range calls() {
						for _, l := range [][2]api.Nat{{a, b}, {n, b}, {a, n}} {
							want, wantCode := c.due(l[0], l[1], m)
							if got, code := c.ask(l[0], l[1], m); code != wantCode || !slices.Equal(got, want) {
								t.Errorf("P3: worker %d: %s(%x, %x, %x)", k, c.name, l[0], l[1], m)
							}
						}
					}
				}
			}
		})
	}
	wg.Wait()
}
