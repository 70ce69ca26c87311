package nat_test

import (
	"math"
	"math/big"
	"math/rand"
	"slices"
	"testing"

	"signet/api"
	"signet/nat"
)

// course: what Knuth's algorithm D meets on its way: how much too great the estimate of a digit from the highest limbs is, and whether one that a further limb has mended must still be taken back by adding.
type course struct {
	tooGreat [3]int
	full     int // those of them of 2^32 or more
	added    int
}

// meet follows a division by d, which has two limbs or more, in Go's own library's numbers.
func (c *course) meet(a, d api.Nat) {
	d = limbs(value(d))
	shift := uint(32*len(d) - value(d).BitLen())
	left, by := new(big.Int).Lsh(value(a), shift), new(big.Int).Lsh(value(d), shift)
	head := func(x *big.Int, below int) *big.Int { return new(big.Int).Rsh(x, uint(32*below)) }
	for j := len(a) - len(d); j >= 0; j-- {
		digit, rest := new(big.Int).QuoRem(head(left, j), by, new(big.Int))
		first := new(big.Int).Quo(head(left, j+len(d)-1), head(by, len(d)-1))
		mended := new(big.Int).Quo(head(left, j+len(d)-2), head(by, len(d)-2))
		if mended.Cmp(big.NewInt(math.MaxUint32)) > 0 {
			mended.SetUint64(math.MaxUint32)
		}
		if first.BitLen() > 32 {
			c.full++
		}
		c.tooGreat[new(big.Int).Sub(first, mended).Uint64()]++
		c.added += int(new(big.Int).Sub(mended, digit).Uint64())
		low := new(big.Int).Sub(left, new(big.Int).Lsh(head(left, j), uint(32*j)))
		left.Lsh(rest, uint(32*j)).Add(left, low)
	}
}

func TestDivisionEdges(t *testing.T) {
	for _, c := range []struct {
		what     string
		a, d     api.Nat
		tooGreat int // -1: an estimate's course is not what the row is for
		added    int
	}{
		{"the chapter's", api.Nat{0, 0, 0x80000000, 0x7fffffff}, api.Nat{1, 0, 0x80000000}, -1, 1},
		{"an estimate that is right", api.Nat{7, 8, 1 << 30}, api.Nat{0, 1 << 31}, 0, 0},
		{"one too great", api.Nat{0, 0, 1}, api.Nat{1, 1 << 31}, 1, 0},
		{"one too great, 2^32 at first", api.Nat{0, 0, 1 << 31}, api.Nat{1, 1 << 31}, 1, 0},
		{"two too great", api.Nat{0, 0, 1<<31 - 1}, api.Nat{top, 1 << 31}, 2, 0},
		{"two too great, 2^32 + 1 at first", api.Nat{0, top - 1, 1 << 31}, api.Nat{top, 1 << 31}, 2, 0},
		{"put back", api.Nat{0, 0, 0, 1}, api.Nat{1, 0, 1 << 31}, -1, 1},
		{"put back, a divisor that must be shifted", api.Nat{3, 0, 0x80000000}, api.Nat{1, 0, 0x20000000}, -1, 1},
		{"equal highest limbs", api.Nat{0, 1, 1 << 31}, api.Nat{5, 1 << 31}, -1, -1},
		{"equal highest limbs, all of them full", api.Nat{0, top, top}, api.Nat{top, top}, -1, -1},
		{"two equal highest limbs", api.Nat{0, 0, 9, 1 << 31}, api.Nat{1, 9, 1 << 31}, -1, -1},
		{"one less than itself", api.Nat{4, 9, 1 << 31}, api.Nat{5, 9, 1 << 31}, -1, -1},
	} {
		for m := range 3 {
			holdDivision(t, padded(c.a, m), padded(c.d, 2-m))
		}
		var met course
		met.meet(c.a, c.d)
		if c.tooGreat >= 0 && met.tooGreat[c.tooGreat] == 0 || c.added >= 0 && met.added < c.added {
			t.Errorf("%s: %x by %x meets %v", c.what, c.a, c.d, met)
		}
	}
}

// All numbers of limbs at an edge: every turn that a division may take is met, often.
func TestDivisionTurns(t *testing.T) {
	few := []uint32{0, 1, 1<<31 - 1, 1 << 31, top - 1, top}
	every := func(n int) []api.Nat {
		out := []api.Nat{{}}
		for range n {
			var longer []api.Nat
			for _, ahead := range out {
				for _, limb := range few {
					longer = append(longer, append(slices.Clone(ahead), limb))
				}
			}
			out = longer
		}
		return out
	}
	var met course
	for _, size := range [][2]int{{1, 1}, {2, 1}, {3, 1}, {4, 1}, {2, 2}, {3, 2}, {4, 2}, {2, 3}, {3, 3}} {
		for _, d := range every(size[1]) {
			for _, a := range every(size[0]) {
				holdDivision(t, a, d)
				if size[1] > 1 && d[size[1]-1] != 0 {
					met.meet(a, d)
				}
			}
		}
	}
	r := rand.New(rand.NewSource(9))
	for range 40000 {
		a, d := drawn(r, 9), append(drawn(r, 4), 1, few[1+r.Intn(5)]>>r.Intn(32)|1)
		holdDivision(t, a, d)
		met.meet(a, d)
	}
	for i, n := range met.tooGreat {
		if n < 100 {
			t.Errorf("an estimate that is %d too great was met %d times", i, n)
		}
	}
	if met.added < 100 || met.full < 100 {
		t.Errorf("an estimate was taken back by adding %d times, and was 2^32 or more %d times", met.added, met.full)
	}
}

// By one limb, by a greater number, by itself, by one more and one less, by a piece of itself.
func TestDivisors(t *testing.T) {
	r := rand.New(rand.NewSource(10))
	for range 1000 {
		a := append(drawn(r, 9), 1|r.Uint32()>>r.Intn(32))
		x := value(a)
		for m := range 3 {
			q, rest, code := nat.DivMod(padded(a, m), padded(a, 2-m))
			if code != api.OK || !slices.Equal(q, api.Nat{1}) || len(rest) != 0 {
				t.Fatalf("6.4: %x by itself: %x, %x, %d", a, q, rest, code)
			}
			more := limbs(new(big.Int).Add(x, big.NewInt(int64(1+r.Intn(5)))))
			q, rest, code = nat.DivMod(padded(a, m), padded(more, 2-m))
			if code != api.OK || len(q) != 0 || !slices.Equal(rest, a) {
				t.Fatalf("6.4: %x by %x, which is more: %x, %x, %d", a, more, q, rest, code)
			}
			holdDivision(t, padded(more, m), a)
			longer := append(slices.Clone(a), 1)
			q, rest, code = nat.DivMod(padded(a, m), longer)
			if code != api.OK || len(q) != 0 || !slices.Equal(rest, a) {
				t.Fatalf("6.4: %x by %x, which is longer: %x, %x, %d", a, longer, q, rest, code)
			}
		}
		for _, limb := range []uint32{1, 2, 3, 10, 1<<16 - 1, 1 << 16, 1<<31 - 1, 1 << 31, 1<<31 + 1, top - 1, top, r.Uint32() | 1} {
			holdDivision(t, a, api.Nat{limb})
			holdDivision(t, a, api.Nat{limb, 0, 0})
		}
		q, rest, code := nat.DivMod(a, api.Nat{1})
		if code != api.OK || !slices.Equal(q, a) || len(rest) != 0 {
			t.Fatalf("6.4: %x by 1: %x, %x, %d", a, q, rest, code)
		}
		for i := range a {
			holdDivision(t, a, a[i:])
		}
	}
}

func TestByNought(t *testing.T) {
	for _, nought := range []api.Nat{nil, {}, {0}, {0, 0}, make(api.Nat, 100)} {
		for _, a := range append(edges(), nought, api.Nat{0}) {
			q, r, code := nat.DivMod(a, nought)
			if code != api.ErrZero || q != nil || r != nil {
				t.Errorf("6.4: DivMod(%x, %x) = %x, %x, %d, want nothing and ErrZero", a, nought, q, r, code)
			}
		}
	}
}

// x d + y by d is x and y, for each y below d, those beside the ends too: there an estimate goes wrong.
func TestOneQuotient(t *testing.T) {
	r := rand.New(rand.NewSource(11))
	one := big.NewInt(1)
	for range 6000 {
		x, d := drawn(r, 7), append(drawn(r, 5), 1|r.Uint32()>>r.Intn(32))
		last := new(big.Int).Sub(value(d), one)
		drawnRest := new(big.Int).Rand(r, value(d))
		for _, y := range []*big.Int{new(big.Int), new(big.Int).Rsh(last, 1), last, drawnRest} {
			a := nat.Add(nat.Mul(x, d), padded(limbs(y), r.Intn(2)))
			q, rest, code := nat.DivMod(a, d)
			if code != api.OK || !is(q, value(x)) || !is(rest, y) {
				t.Fatalf("6.7: %x times %x and %x, by it: %x, %x, %d", x, d, y, q, rest, code)
			}
			if nat.Cmp(rest, d) >= 0 {
				t.Fatalf("6.4: a rest of %x by %x", rest, d)
			}
		}
	}
}
