package nat_test

import (
	"bytes"
	"math"
	"math/big"
	"math/rand"
	"slices"
	"sync"
	"testing"

	"signet/api"
	"signet/nat"
)

const top = math.MaxUint32

// value: a number by Go's own library, limb by limb.
func value(n api.Nat) *big.Int {
	x := new(big.Int)
	for _, limb := range slices.Backward(n) {
		x.Lsh(x, 32).Or(x, big.NewInt(int64(limb)))
	}
	return x
}

// limbs: a number of Go's own library, proper.
func limbs(x *big.Int) api.Nat {
	var n api.Nat
	for x, mask := new(big.Int).Set(x), big.NewInt(top); x.Sign() > 0; x.Rsh(x, 32) {
		n = append(n, uint32(new(big.Int).And(x, mask).Uint64()))
	}
	return n
}

// is: is the answer the number, and proper?
func is(n api.Nat, x *big.Int) bool { return slices.Equal(n, limbs(x)) }

// padded: a number with m noughts on top.
func padded(n api.Nat, m int) api.Nat { return append(slices.Clone(n), make(api.Nat, m)...) }

func power(k int) api.Nat { return limbs(new(big.Int).Lsh(big.NewInt(1), uint(k))) }

// drawn: up to most limbs, many of them at an edge; noughts on top now and then.
func drawn(r *rand.Rand, most int) api.Nat {
	n := make(api.Nat, r.Intn(most+1))
	for i := range n {
		n[i] = []uint32{0, 0, 1, 2, 1<<31 - 1, 1 << 31, 1<<31 + 1, top - 1, top, top, r.Uint32(), r.Uint32(), r.Uint32() >> r.Intn(32)}[r.Intn(13)]
	}
	return n
}

// edges: numbers about limbs' and bytes' ends, proper ones and nought.
func edges() []api.Nat {
	out := []api.Nat{nil, {1}, {2}, {3}, {5}, {255}, {256}, {1<<16 - 1}, {1 << 16}, {1<<24 - 1}, {1 << 24}, {1<<31 - 1}, {1 << 31}, {top - 1}, {top},
		{0, 1}, {1, 1}, {top, 1}, {0, 1 << 31}, {top, 1<<31 - 1}, {0, top}, {top, top}, {top, 255}, {0, 256}, {0, 0, 1}, {1, 0, 1}, {top, top, top}, {0, 0, 1 << 31}, {0, 0, 0, 1},
		{1, 2, 3, 4}, {4, 3, 2, 1}, {0, top, 0, top}, {top, 0, top, 0, 1}, {0, 0, 0, 0, 0, 0, 0, 1 << 31}}
	for i := range 12 {
		n := drawn(rand.New(rand.NewSource(int64(i))), 8)
		out = append(out, append(n, uint32(i+1)))
	}
	return out
}

// holdNumber: the calls of one number.
func holdNumber(t *testing.T, n api.Nat) {
	t.Helper()
	x := value(n)
	if got := nat.Bytes(n); !bytes.Equal(got, x.Bytes()) {
		t.Fatalf("6.1: Bytes(%x) = %x, want %x", n, got, x.Bytes())
	}
	if got := nat.Bits(n); got != x.BitLen() {
		t.Fatalf("6.5: Bits(%x) = %d, want %d", n, got, x.BitLen())
	}
	if got, ok := nat.Uint(n); ok != x.IsUint64() || ok && got != x.Uint64() || !ok && got != 0 {
		t.Fatalf("6.1: Uint(%x) = %d, %t", n, got, ok)
	}
	least := len(x.Bytes())
	for _, size := range []int{0, 1, least - 2, least - 1, least, least + 1, least + 2, least + 3, least + 4, least + 9, 32, 100} {
		got, ok := nat.Fixed(n, size)
		if ok != (size >= least) || !ok && got != nil {
			t.Fatalf("6.1: Fixed(%x, %d) = %x, %t", n, size, got, ok)
		}
		if ok && !bytes.Equal(got, x.FillBytes(make([]byte, size))) {
			t.Fatalf("6.1: Fixed(%x, %d) = %x", n, size, got)
		}
	}
	for i := range 32*len(n) + 40 {
		if got := nat.Bit(n, i); got != (x.Bit(i) == 1) {
			t.Fatalf("6.5: Bit(%x, %d) = %t", n, i, got)
		}
	}
}

// holdShift: Shl and Shr.
func holdShift(t *testing.T, n api.Nat, k int) {
	t.Helper()
	x := value(n)
	if got := nat.Shl(n, k); !is(got, new(big.Int).Lsh(x, uint(min(max(k, 0), 1<<17)))) {
		t.Fatalf("6.5: Shl(%x, %d) = %x", n, k, got)
	}
	if got := nat.Shr(n, k); !is(got, new(big.Int).Rsh(x, uint(max(k, 0)))) {
		t.Fatalf("6.5: Shr(%x, %d) = %x", n, k, got)
	}
}

// holdPair: the calls of two numbers, in this order.
func holdPair(t *testing.T, a, b api.Nat) {
	t.Helper()
	x, y := value(a), value(b)
	if got := nat.Cmp(a, b); got != x.Cmp(y) {
		t.Fatalf("6.2: Cmp(%x, %x) = %d, want %d", a, b, got, x.Cmp(y))
	}
	if got := nat.Add(a, b); !is(got, new(big.Int).Add(x, y)) {
		t.Fatalf("6.3: Add(%x, %x) = %x", a, b, got)
	}
	if got := nat.Mul(a, b); !is(got, new(big.Int).Mul(x, y)) {
		t.Fatalf("6.3: Mul(%x, %x) = %x", a, b, got)
	}
	got, ok := nat.Sub(a, b)
	switch {
	case ok != (x.Cmp(y) >= 0):
		t.Fatalf("6.3: Sub(%x, %x) says %t", a, b, ok)
	case !ok && got != nil:
		t.Fatalf("P4: Sub(%x, %x) = %x beside false", a, b, got)
	case ok && !is(got, new(big.Int).Sub(x, y)):
		t.Fatalf("6.3: Sub(%x, %x) = %x", a, b, got)
	}
	holdDivision(t, a, b)
}

func holdDivision(t *testing.T, a, d api.Nat) {
	t.Helper()
	x, y := value(a), value(d)
	q, r, code := nat.DivMod(a, d)
	if y.Sign() == 0 {
		if code != api.ErrZero || q != nil || r != nil {
			t.Fatalf("6.4: DivMod(%x, %x) = %x, %x, %d, want nothing and ErrZero", a, d, q, r, code)
		}
		return
	}
	wantQ, wantR := new(big.Int).QuoRem(x, y, new(big.Int))
	if code != api.OK || !is(q, wantQ) || !is(r, wantR) {
		t.Fatalf("6.4: DivMod(%x, %x) = %x, %x, %d, want %x, %x", a, d, q, r, code, limbs(wantQ), limbs(wantR))
	}
}

// The rows of the chapter's table.
func TestExamples(t *testing.T) {
	number := func(what string, got, want api.Nat) {
		t.Helper()
		if !slices.Equal(got, want) {
			t.Errorf("%s = %x, want %x", what, got, want)
		}
	}
	number("FromBytes", nat.FromBytes([]byte{0, 1, 0, 0, 0, 2}), api.Nat{2, 1})
	for _, c := range []struct {
		n    api.Nat
		want []byte
	}{{api.Nat{2, 1}, []byte{1, 0, 0, 0, 2}}, {api.Nat{2, 0, 0}, []byte{2}}, {nil, nil}} {
		if got := nat.Bytes(c.n); !bytes.Equal(got, c.want) {
			t.Errorf("Bytes(%x) = %x, want %x", c.n, got, c.want)
		}
	}
	for _, c := range []struct {
		n    api.Nat
		size int
		want []byte
		ok   bool
	}{{api.Nat{2}, 3, []byte{0, 0, 2}, true}, {api.Nat{2}, 1, []byte{2}, true}, {api.Nat{2}, 0, nil, false}, {nil, 0, nil, true}} {
		if got, ok := nat.Fixed(c.n, c.size); !bytes.Equal(got, c.want) || ok != c.ok {
			t.Errorf("Fixed(%x, %d) = %x, %t, want %x, %t", c.n, c.size, got, ok, c.want, c.ok)
		}
	}
	for _, c := range []struct {
		n    api.Nat
		want uint64
		ok   bool
	}{{api.Nat{2, 1}, 4294967298, true}, {api.Nat{1, 2, 3}, 0, false}, {api.Nat{1, 2, 0}, 8589934593, true}} {
		if got, ok := nat.Uint(c.n); got != c.want || ok != c.ok {
			t.Errorf("Uint(%x) = %d, %t, want %d, %t", c.n, got, ok, c.want, c.ok)
		}
	}
	number("Add", nat.Add(api.Nat{top}, api.Nat{1}), api.Nat{0, 1})
	left, ok := nat.Sub(api.Nat{0, 0, 1}, api.Nat{1})
	number("Sub", left, api.Nat{top, top})
	none, not := nat.Sub(api.Nat{1}, api.Nat{2})
	number("Sub of a greater one", none, nil)
	if !ok || not {
		t.Errorf("Sub says %t and %t, want true and false", ok, not)
	}
	number("Mul", nat.Mul(api.Nat{top}, api.Nat{top}), api.Nat{1, top - 1})
	for _, c := range []struct {
		a, d, q, r api.Nat
		code       api.Errno
	}{
		{api.Nat{0, 0, 1}, api.Nat{3}, api.Nat{0x55555555, 0x55555555}, api.Nat{1}, api.OK},
		{api.Nat{0, 0, 0x80000000, 0x7fffffff}, api.Nat{1, 0, 0x80000000}, api.Nat{0xfffffffe}, api.Nat{2, 0xffffffff, 0x7fffffff}, api.OK},
		{api.Nat{1}, api.Nat{0, 0}, nil, nil, api.ErrZero},
	} {
		q, r, code := nat.DivMod(c.a, c.d)
		number("DivMod, the quotient", q, c.q)
		number("DivMod, the rest", r, c.r)
		if code != c.code {
			t.Errorf("DivMod(%x, %x) says %d, want %d", c.a, c.d, code, c.code)
		}
	}
	five := api.Nat{5}
	if got := nat.Bits(api.Nat{0, 1}); got != 33 {
		t.Errorf("Bits = %d, want 33", got)
	}
	if !nat.Bit(five, 0) || nat.Bit(five, 1) || nat.Bit(five, -1) || nat.Bit(five, 99) {
		t.Error("Bit of 5 at 0, 1, -1, 99: want true, false, false, false")
	}
	number("Shl by 33", nat.Shl(api.Nat{1}, 33), api.Nat{0, 2})
	number("Shr by 33", nat.Shr(api.Nat{0, 2}, 33), api.Nat{1})
	number("Shl by -5", nat.Shl(api.Nat{1}, -5), api.Nat{1})
}

// Every call with numbers at edges, with and without noughts on top, as each argument.
func TestEdges(t *testing.T) {
	all := edges()
	for _, a := range all {
		for _, m := range []int{0, 1, 2, 5} {
			holdNumber(t, padded(a, m))
			for _, k := range []int{-33, -32, -1, 0, 1, 2, 31, 32, 33, 63, 64, 65, 95, 96, 97, 128, 255, 256, 257, 300, 1000} {
				holdShift(t, padded(a, m), k)
			}
		}
		for _, b := range all {
			for _, m := range []int{0, 1, 3} {
				for _, k := range []int{0, 1, 4} {
					holdPair(t, padded(a, m), padded(b, k))
				}
			}
		}
	}
}

// Nought, with limbs and without, and as an empty list, in every place.
func TestNought(t *testing.T) {
	noughts := []api.Nat{nil, {}, {0}, {0, 0}, make(api.Nat, 40)}
	for _, z := range noughts {
		holdNumber(t, z)
		for _, k := range []int{math.MinInt, -1, 0, 1, 31, 32, 64, 1 << 17, 1<<17 + 1, math.MaxInt} {
			holdShift(t, z, k)
		}
		for _, n := range slices.Concat(noughts, edges()) {
			for m := range 3 {
				holdPair(t, z, padded(n, m))
				holdPair(t, padded(n, m), z)
			}
		}
		if got, ok := nat.Fixed(z, 0); !ok || len(got) != 0 {
			t.Errorf("6.1: Fixed(%x, 0) = %x, %t", z, got, ok)
		}
		if got, ok := nat.Uint(z); !ok || got != 0 {
			t.Errorf("6.1: Uint(%x) = %d, %t", z, got, ok)
		}
	}
	for n := range 20 {
		if got := nat.FromBytes(make([]byte, n)); len(got) != 0 {
			t.Errorf("6.1: FromBytes of %d bytes 0 = %x", n, got)
		}
	}
	if len(nat.FromBytes(nil)) != 0 || len(nat.FromUint(0)) != 0 {
		t.Error("6.1: nought has no limb")
	}
}

func TestAgainstBig(t *testing.T) {
	r := rand.New(rand.NewSource(1))
	for i := range 20000 {
		a, b := drawn(r, 14), drawn(r, 9)
		holdPair(t, a, b)
		holdPair(t, b, a)
		holdShift(t, a, r.Intn(520)-20)
		if i%10 == 0 {
			holdNumber(t, a)
		}
	}
	for range 60 { // and sizes of keys, and behind them
		a, b := drawn(r, 600), drawn(r, 300)
		holdPair(t, a, b)
		holdPair(t, b, a)
	}
	for _, size := range [][2]int{{256, 128}, {257, 128}, {1000, 999}, {2000, 1}, {1500, 700}} {
		a, b := make(api.Nat, size[0]), make(api.Nat, size[1])
		for i := range a {
			a[i] = r.Uint32()
		}
		for i := range b {
			b[i] = r.Uint32()
		}
		holdPair(t, a, b)
		holdPair(t, b, a)
	}
}

// Carries and borrows that go along many limbs.
func TestLongCarries(t *testing.T) {
	for n := 1; n < 40; n++ {
		full := slices.Repeat(api.Nat{top}, n)
		one := power(32 * n)
		for _, b := range []api.Nat{{1}, {2}, {top}, full, one, padded(full, 1), {0, 1}} {
			holdPair(t, full, b)
			holdPair(t, one, b)
			holdPair(t, b, full)
		}
	}
}

func TestFromBytes(t *testing.T) {
	r := rand.New(rand.NewSource(2))
	for n := range 70 {
		for ahead := range 9 {
			b := make([]byte, n)
			r.Read(b)
			if n > 0 {
				b[0] |= 1
			}
			long := slices.Concat(make([]byte, ahead), b)
			if got := nat.FromBytes(long); !is(got, new(big.Int).SetBytes(b)) {
				t.Fatalf("6.1: FromBytes(%x) = %x", long, got)
			}
		}
	}
	if got := nat.FromBytes([]byte{1, 2, 3, 4, 5, 6, 7}); !slices.Equal(got, api.Nat{0x04050607, 0x010203}) {
		t.Errorf("6.1: the most significant byte does not stand first: %x", got)
	}
}

func TestFixed(t *testing.T) {
	const most = 1 << 14
	full := slices.Repeat(api.Nat{top}, most/4) // just so many bytes
	for _, c := range []struct {
		n    api.Nat
		size int
		ok   bool
	}{
		{nil, 0, true}, {nil, 1, true}, {nil, most, true}, {nil, most + 1, false}, {nil, -1, false}, {nil, math.MinInt, false}, {nil, math.MaxInt, false},
		{api.Nat{0}, 0, true}, {api.Nat{0, 0}, most, true}, {api.Nat{0, 0}, most + 1, false}, {api.Nat{0, 0}, -1, false},
		{api.Nat{1}, 1, true}, {api.Nat{1}, 0, false}, {api.Nat{1}, -1, false}, {api.Nat{1}, most, true}, {api.Nat{1}, most + 1, false},
		{api.Nat{255}, 1, true}, {api.Nat{256}, 1, false}, {api.Nat{256}, 2, true}, {api.Nat{256, 0, 0}, 2, true}, {api.Nat{256, 0, 0}, 1, false},
		{api.Nat{top}, 4, true}, {api.Nat{top}, 3, false}, {api.Nat{0, 1}, 5, true}, {api.Nat{0, 1}, 4, false}, {api.Nat{0, 1, 0}, 4, false},
		{api.Nat{1}, math.MinInt, false}, {api.Nat{1}, math.MaxInt, false}, {api.Nat{1}, 1 << 32, false}, {api.Nat{1}, 1<<32 + 1, false}, {api.Nat{1}, 2 * most, false},
		{full, most, true}, {full, most - 1, false}, {full, most + 1, false}, {padded(full, 3), most, true},
		{power(8 * most), most, false}, {power(8 * most), most + 1, false}, {power(8*most - 1), most, true}, {power(8*most - 8), most, true}, {power(8*most - 8), most - 1, false},
	} {
		got, ok := nat.Fixed(c.n, c.size)
		if ok != c.ok {
			t.Errorf("6.1: Fixed(a number of %d limbs, %d) says %t", len(c.n), c.size, ok)
			continue
		}
		if !ok && got != nil {
			t.Errorf("P4: Fixed(a number of %d limbs, %d) has %d bytes beside false", len(c.n), c.size, len(got))
		}
		if ok && !bytes.Equal(got, value(c.n).FillBytes(make([]byte, c.size))) {
			t.Errorf("6.1: Fixed(a number of %d limbs, %d)", len(c.n), c.size)
		}
	}
}

func TestUint(t *testing.T) {
	for i := range 65 {
		for _, u := range []uint64{1<<i - 1, 1 << i, 1<<i + 1} {
			want := new(big.Int).SetUint64(u)
			n := nat.FromUint(u)
			if !is(n, want) {
				t.Errorf("6.1: FromUint(%d) = %x", u, n)
			}
			for m := range 3 {
				if got, ok := nat.Uint(padded(n, m)); !ok || got != u {
					t.Errorf("6.1: Uint of %d, %d noughts on top: %d, %t", u, m, got, ok)
				}
			}
		}
	}
	for _, n := range []api.Nat{{0, 0, 1}, {1, 0, 1}, {top, top, 1}, {0, 0, top}, {0, 0, 1, 0}, {0, 0, 0, 1}, {5, 0, 0, 0, 0, 1}, power(64), power(65), power(4096)} {
		if got, ok := nat.Uint(n); ok || got != 0 {
			t.Errorf("6.1: Uint(%x) = %d, %t, want 0 and false", n, got, ok)
		}
	}
}

func TestCmp(t *testing.T) {
	r := rand.New(rand.NewSource(3))
	for range 2000 {
		a := append(drawn(r, 9), 1)
		b := slices.Clone(a)
		if nat.Cmp(a, b) != 0 || nat.Cmp(padded(a, 1), b) != 0 || nat.Cmp(a, padded(b, 2)) != 0 {
			t.Fatalf("6.2: %x is not the same as itself", a)
		}
		b[r.Intn(len(b))] ^= 1 << r.Intn(32) // they differ in one bit
		holdPair(t, a, b)
		holdPair(t, padded(a, 2), b)
		holdPair(t, a, padded(b, 2))
		if nat.Cmp(a, b) == 0 || nat.Cmp(a, b) != -nat.Cmp(b, a) {
			t.Fatalf("6.2: Cmp(%x, %x)", a, b)
		}
	}
}

func TestSub(t *testing.T) {
	for _, n := range edges() {
		for m := range 3 {
			if left, ok := nat.Sub(padded(n, m), n); !ok || len(left) != 0 {
				t.Errorf("6.3: %x less itself: %x, %t", n, left, ok)
			}
			if left, ok := nat.Sub(n, padded(n, m)); !ok || len(left) != 0 {
				t.Errorf("6.3: %x less itself: %x, %t", n, left, ok)
			}
		}
		more := limbs(new(big.Int).Add(value(n), big.NewInt(1)))
		for m := range 3 {
			if left, ok := nat.Sub(padded(n, m), more); ok || left != nil {
				t.Errorf("6.3: %x less one more: %x, %t", n, left, ok)
			}
			if left, ok := nat.Sub(padded(more, m), n); !ok || !slices.Equal(left, api.Nat{1}) {
				t.Errorf("6.3: %x less one less: %x, %t", more, left, ok)
			}
		}
	}
}

func TestBits(t *testing.T) {
	for k := range 200 {
		one, full := power(k), limbs(new(big.Int).Sub(value(power(k)), big.NewInt(1)))
		for m := range 3 {
			if nat.Bits(padded(one, m)) != k+1 || nat.Bits(padded(full, m)) != k {
				t.Errorf("6.5: Bits of 2^%d, and of one less: %d, %d", k, nat.Bits(padded(one, m)), nat.Bits(padded(full, m)))
			}
		}
		for i := -70; i < 300; i++ {
			if nat.Bit(one, i) != (i == k) || nat.Bit(full, i) != (i >= 0 && i < k) {
				t.Fatalf("6.5: bit %d of 2^%d, or of one less", i, k)
			}
		}
	}
	for _, n := range []api.Nat{nil, {1}, {top}, {top, top}, {1, 0}, {top, top, 0, 0}} {
		for _, i := range []int{math.MinInt, math.MinInt + 1, -1 << 32, -64, -63, -33, -32, -31, -2, -1, 64, 65, 95, 96, 127, 128, 1 << 20, 1 << 31, 1 << 32, 1 << 37, math.MaxInt - 1, math.MaxInt} {
			if nat.Bit(n, i) {
				t.Errorf("6.5: Bit(%x, %d) is true", n, i)
			}
		}
	}
}

func TestShifts(t *testing.T) {
	const most = 1 << 17
	for _, n := range []api.Nat{nil, {0, 0}, {1}, {5}, {top}, {1 << 31}, {top, top}, {1, 0, 0}, {3, 1 << 31}, slices.Repeat(api.Nat{0xdeadbeef}, 4100)} {
		for _, k := range []int{math.MinInt, -most - 1, -most, -33, -32, -1, 0, 1, 31, 32, 33, 64, 96, 128, 4096, most - 33, most - 32, most - 31, most - 1, most, most + 1, most + 32, 2 * most} {
			holdShift(t, n, k)
		}
		for _, k := range []int{1 << 31, 1 << 32, 1<<32 + 1, 1 << 40, math.MaxInt - 1, math.MaxInt} {
			if !is(nat.Shl(n, k), new(big.Int).Lsh(value(n), most)) {
				t.Errorf("6.5: Shl by %d is not Shl by 2^17", k)
			}
			if len(nat.Shr(n, k)) != 0 {
				t.Errorf("6.5: Shr by %d leaves something", k)
			}
		}
	}
	if nat.Bits(nat.Shl(api.Nat{1}, most)) != most+1 || nat.Bits(nat.Shl(api.Nat{1}, most+1)) != most+1 || nat.Bits(nat.Shl(api.Nat{1}, most-1)) != most {
		t.Error("6.5: Shl about 2^17")
	}
	if n := nat.Shr(power(most+70), most+1); !slices.Equal(n, power(69)) { // Shr has no such bound
		t.Errorf("6.5: Shr by 2^17 + 1: %x", n)
	}
}

func TestRing(t *testing.T) {
	r := rand.New(rand.NewSource(4))
	same := func(what string, x, y api.Nat) {
		t.Helper()
		if !slices.Equal(x, y) {
			t.Fatalf("6.6: %s: %x and %x", what, x, y)
		}
	}
	for range 3000 {
		a, b, c := drawn(r, 8), drawn(r, 8), drawn(r, 8)
		same("a + b = b + a", nat.Add(a, b), nat.Add(b, a))
		same("(a + b) + c = a + (b + c)", nat.Add(nat.Add(a, b), c), nat.Add(a, nat.Add(b, c)))
		same("a b = b a", nat.Mul(a, b), nat.Mul(b, a))
		same("(a b) c = a (b c)", nat.Mul(nat.Mul(a, b), c), nat.Mul(a, nat.Mul(b, c)))
		same("a (b + c) = a b + a c", nat.Mul(a, nat.Add(b, c)), nat.Add(nat.Mul(a, b), nat.Mul(a, c)))
		own := limbs(value(a))
		for _, nought := range []api.Nat{nil, {0}, {0, 0, 0}} {
			same("a + 0 = a", nat.Add(a, nought), own)
			same("0 + a = a", nat.Add(nought, a), own)
			same("a 0 = 0", nat.Mul(a, nought), nil)
			left, ok := nat.Sub(a, nought)
			same("a - 0 = a", left, own)
			if !ok {
				t.Fatalf("6.6: %x less nought is refused", a)
			}
		}
		for _, one := range []api.Nat{{1}, {1, 0}} {
			same("a 1 = a", nat.Mul(a, one), own)
			same("1 a = a", nat.Mul(one, a), own)
		}
		left, ok := nat.Sub(a, b)
		if ok != (nat.Cmp(b, a) <= 0) {
			t.Fatalf("6.6: Sub(%x, %x) says %t", a, b, ok)
		}
		if ok {
			same("(a - b) + b = a", nat.Add(left, b), own)
		}
		back, ok := nat.Sub(nat.Add(a, b), b)
		same("(a + b) - b = a", back, own)
		if !ok {
			t.Fatalf("6.6: Sub(%x + %x, %x) is refused", a, b, b)
		}
	}
}

func TestThereAndBack(t *testing.T) {
	r := rand.New(rand.NewSource(5))
	for range 2000 {
		n := drawn(r, 12)
		own := limbs(value(n))
		if got := nat.FromBytes(nat.Bytes(n)); !slices.Equal(got, own) {
			t.Fatalf("6.8: FromBytes(Bytes(%x)) = %x", n, got)
		}
		size := len(nat.Bytes(n)) + r.Intn(30)
		b, ok := nat.Fixed(n, size)
		if got := nat.FromBytes(b); !ok || len(b) != size || !slices.Equal(got, own) {
			t.Fatalf("6.8: FromBytes(Fixed(%x, %d)) = %x", n, size, got)
		}
		cut := bytes.TrimLeft(b, "\x00")
		if got := nat.Bytes(nat.FromBytes(b)); !bytes.Equal(got, cut) {
			t.Fatalf("6.8: Bytes(FromBytes(%x)) = %x", b, got)
		}
		k := r.Intn(500) - 50
		up := nat.Shl(n, k)
		if got := nat.Shr(up, k); !slices.Equal(got, own) {
			t.Fatalf("6.8: Shr(Shl(%x, %d), %d) = %x", n, k, k, got)
		}
		if got := nat.Mul(n, nat.Shl(api.Nat{1}, k)); !slices.Equal(got, up) {
			t.Fatalf("6.8: Shl(%x, %d) = %x, but the product is %x", n, k, up, got)
		}
	}
	for _, k := range []int{1<<17 - 1, 1 << 17, 1<<17 + 1, math.MaxInt} {
		for _, n := range edges() {
			up := nat.Shl(n, k)
			if !slices.Equal(nat.Shr(up, min(k, 1<<17)), n) || !slices.Equal(nat.Mul(n, nat.Shl(api.Nat{1}, k)), up) {
				t.Fatalf("6.8: %x by %d bits", n, k)
			}
		}
	}
	for u := range uint64(300) {
		for _, u := range []uint64{u, u << 20, u << 32, u << 40, ^u} {
			if got, ok := nat.Uint(nat.FromUint(u)); !ok || got != u {
				t.Fatalf("6.8: Uint(FromUint(%d)) = %d, %t", u, got, ok)
			}
		}
	}
}

// P5: whatever way a number was come by, it is the same one, and the laws hold between the calls.
func TestOneNumber(t *testing.T) {
	r := rand.New(rand.NewSource(7))
	for range 1000 {
		n := append(drawn(r, 9), 1+r.Uint32()>>1)
		k := r.Intn(200)
		two := nat.Shl(api.Nat{1}, k)
		q, rest, code := nat.DivMod(n, two)
		if code != api.OK || !slices.Equal(q, nat.Shr(n, k)) || nat.Bits(rest) > k {
			t.Fatalf("P5: %x by 2^%d: %x, %x", n, k, q, rest)
		}
		if !slices.Equal(nat.Add(n, n), nat.Shl(n, 1)) || !slices.Equal(nat.Mul(n, api.Nat{2}), nat.Shl(n, 1)) {
			t.Fatalf("P5: %x doubled", n)
		}
		var sum api.Nat
		for i := range nat.Bits(n) {
			if nat.Bit(n, i) {
				sum = nat.Add(sum, nat.Shl(api.Nat{1}, i))
			}
		}
		if !slices.Equal(sum, n) {
			t.Fatalf("P5: the digits of %x make %x", n, sum)
		}
	}
}

func TestAtOnce(t *testing.T) {
	r := rand.New(rand.NewSource(8))
	a, b := append(drawn(r, 20), 7), append(drawn(r, 9), 5)
	var wg sync.WaitGroup
	for k := range 16 {
		wg.Go(func() {
			own := rand.New(rand.NewSource(int64(k)))
			for range 100 {
				n := drawn(own, 12)
				for _, pair := range [][2]api.Nat{{a, b}, {b, a}, {a, n}, {n, b}} {
					x, y := value(pair[0]), value(pair[1])
					q, rest, _ := nat.DivMod(pair[0], pair[1])
					if !is(nat.Add(nat.Mul(q, pair[1]), rest), x) && y.Sign() > 0 || !is(nat.Add(pair[0], pair[1]), x.Add(x, y)) {
						t.Errorf("P3: worker %d: %x and %x", k, pair[0], pair[1])
					}
				}
			}
		})
	}
	wg.Wait()
}

// toNumber: limbs of four bytes each, the last ones of a piece that is cut short left away.
func toNumber(b []byte) api.Nat {
	n := make(api.Nat, len(b)/4)
	for i := range n {
		n[i] = uint32(b[4*i]) | uint32(b[4*i+1])<<8 | uint32(b[4*i+2])<<16 | uint32(b[4*i+3])<<24
	}
	return n
}

func FuzzCalls(f *testing.F) {
	f.Add([]byte{0, 0, 0, 0, 0, 0, 0, 0, 0, 0, 0, 128, 255, 255, 255, 127}, []byte{1, 0, 0, 0, 0, 0, 0, 0, 0, 0, 0, 128}, 33)
	f.Add([]byte{1, 0, 0, 0, 0, 0, 0, 0}, []byte{0, 0, 0, 0}, -1)
	f.Add([]byte{}, []byte{255, 255, 255, 255}, 1<<17+1)
	f.Fuzz(func(t *testing.T, first, second []byte, k int) {
		a, b := toNumber(first), toNumber(second)
		holdNumber(t, a)
		holdPair(t, a, b)
		holdPair(t, b, a)
		holdShift(t, a, k%(1<<18))
		if got := nat.FromBytes(first); !is(got, new(big.Int).SetBytes(first)) {
			t.Fatalf("6.1: FromBytes(%x) = %x", first, got)
		}
		q, r, code := nat.DivMod(nat.Add(nat.Mul(a, b), api.Nat{1}), b)
		if nat.Cmp(api.Nat{1}, b) < 0 && (code != api.OK || !slices.Equal(q, limbs(value(a))) || !slices.Equal(r, api.Nat{1})) {
			t.Fatalf("6.7: %x times %x, and 1, by %x: %x, %x", a, b, b, q, r)
		}
	})
}
