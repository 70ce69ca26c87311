package modn_test

import (
	"math"
	"math/big"
	"math/rand"
	"slices"
	"testing"

	"signet/api"
	"signet/modn"
	"signet/nat"
)

const full = math.MaxUint32

func value(n api.Nat) *big.Int { return new(big.Int).SetBytes(nat.Bytes(n)) }

func number(x *big.Int) api.Nat { return nat.FromBytes(x.Bytes()) }

func small(u uint64) api.Nat { return nat.FromUint(u) }

// padded: a number with k noughts on top.
func padded(n api.Nat, k int) api.Nat { return slices.Concat(n, make(api.Nat, k)) }

// moved: n + by.
func moved(n api.Nat, by int64) api.Nat { return number(new(big.Int).Add(value(n), big.NewInt(by))) }

func times(n api.Nat, u uint64) api.Nat { return nat.Mul(n, small(u)) }

// power: 2^k.
func power(k int) api.Nat { return number(new(big.Int).Lsh(big.NewInt(1), uint(k))) }

// drawn: up to most limbs, many of them at an edge; noughts on top now and then.
func drawn(r *rand.Rand, most int) api.Nat {
	n := make(api.Nat, r.Intn(most+1))
	for i := range n {
		n[i] = []uint32{0, 1, 1<<31 - 1, 1 << 31, full - 1, full, r.Uint32(), r.Uint32(), r.Uint32() >> r.Intn(32)}[r.Intn(9)]
	}
	return n
}

// call: one of the calls, and what Go's own library says of it; nil: there is no such number. Inv is not handed b.
type call struct {
	name    string
	promise string
	ask     func(a, b, m api.Nat) (api.Nat, api.Errno)
	want    func(a, b, m *big.Int) *big.Int
}

func calls() []call {
	mod := func(x, m *big.Int) *big.Int { return x.Mod(x, m) }
	return []call{
		{"Add", "7.1", modn.Add, func(a, b, m *big.Int) *big.Int { return mod(new(big.Int).Add(a, b), m) }},
		{"Sub", "7.1", modn.Sub, func(a, b, m *big.Int) *big.Int { return mod(new(big.Int).Sub(a, b), m) }},
		{"Mul", "7.1", modn.Mul, func(a, b, m *big.Int) *big.Int { return mod(new(big.Int).Mul(a, b), m) }},
		{"Exp", "7.2", modn.Exp, func(a, b, m *big.Int) *big.Int { return new(big.Int).Exp(a, b, m) }},
		{"Inv", "7.3", func(a, _, m api.Nat) (api.Nat, api.Errno) { return modn.Inv(a, m) }, func(a, _, m *big.Int) *big.Int {
			// Of nought the library's answer hangs on the modulus, here none has an inverse.
			if a = mod(new(big.Int).Set(a), m); a.Sign() == 0 {
				return nil
			}
			return new(big.Int).ModInverse(a, m)
		}},
	}
}

func called(name string) call {
	all := calls()
	return all[slices.IndexFunc(all, func(c call) bool { return c.name == name })]
}

// due: what the call must answer: a number, or nil and the code.
func (c call) due(a, b, m api.Nat) (api.Nat, api.Errno) {
	handed := []api.Nat{a, b, m}
	if c.name == "Inv" {
		handed = []api.Nat{a, m}
	}
	for _, n := range handed {
		if value(n).BitLen() > 32*128 {
			return nil, api.ErrLarge
		}
	}
	if value(m).BitLen() < 2 {
		return nil, api.ErrZero
	}
	x := c.want(value(a), value(b), value(m))
	if x == nil {
		return nil, api.ErrInverse
	}
	return number(x), api.OK
}

func (c call) hold(t *testing.T, a, b, m api.Nat) {
	t.Helper()
	want, wantCode := c.due(a, b, m)
	got, code := c.ask(a, b, m)
	switch {
	case code != wantCode:
		t.Fatalf("%s: %s(%x, %x, %x) says %d, want %d", c.promise, c.name, a, b, m, code, wantCode)
	case code != api.OK && got != nil:
		t.Fatalf("P4: %s(%x, %x, %x) = %x beside %d", c.name, a, b, m, got, code)
	case !slices.Equal(got, want): // limb by limb: what is not proper differs
		t.Fatalf("%s: %s(%x, %x, %x) = %x, want %x", c.promise, c.name, a, b, m, got, want)
	}
}

func hold(t *testing.T, a, b, m api.Nat) {
	t.Helper()
	for _, c := range calls() {
		c.hold(t, a, b, m)
	}
}

// answer: that of a call that must not refuse.
func answer(t *testing.T, n api.Nat, code api.Errno) api.Nat {
	t.Helper()
	if code != api.OK {
		t.Fatalf("refused with %d", code)
	}
	return n
}

// reckoned: what a call answers of two numbers and a modulus, which it must not refuse.
func reckoned(t *testing.T, ask func(a, b, m api.Nat) (api.Nat, api.Errno), a, b, m api.Nat) api.Nat {
	t.Helper()
	n, code := ask(a, b, m)
	return answer(t, n, code)
}

// The rows of the chapter's table.
func TestExamples(t *testing.T) {
	large := append(make(api.Nat, 128), 1)
	long := padded(slices.Repeat(api.Nat{0xdeadbeef}, 128), 1)
	below, code := modn.Exp(small(3), long[:128], small(1000007))
	if code != api.OK || len(below) == 0 {
		t.Fatalf("Exp of 128 limbs = %x, %d", below, code)
	}
	two := func(ask func(a, m api.Nat) (api.Nat, api.Errno)) func(a, _, m api.Nat) (api.Nat, api.Errno) {
		return func(a, _, m api.Nat) (api.Nat, api.Errno) { return ask(a, m) }
	}
	for _, c := range []struct {
		name    string
		ask     func(a, b, m api.Nat) (api.Nat, api.Errno)
		a, b, m api.Nat
		want    api.Nat
		code    api.Errno
	}{
		{"Add(5, 9, 7)", modn.Add, small(5), small(9), small(7), nil, api.OK},
		{"Sub(3, 5, 7)", modn.Sub, small(3), small(5), small(7), small(5), api.OK},
		{"Mul(6, 6, 7)", modn.Mul, small(6), small(6), small(7), small(1), api.OK},
		{"Exp(3, 200, 1000007)", modn.Exp, small(3), small(200), small(1000007), small(959082), api.OK},
		{"Exp(0, 0, 2)", modn.Exp, nil, nil, small(2), small(1), api.OK},
		{"Exp(5, 0, 7)", modn.Exp, small(5), nil, small(7), small(1), api.OK},
		{"Inv(3, 10)", two(modn.Inv), small(3), nil, small(10), small(7), api.OK},
		{"Inv(7, 2^64)", two(modn.Inv), small(7), nil, api.Nat{0, 0, 1}, small(7905747460161236407), api.OK},
		{"Inv(2, 10)", two(modn.Inv), small(2), nil, small(10), nil, api.ErrInverse},
		{"Inv(0, 5)", two(modn.Inv), nil, nil, small(5), nil, api.ErrInverse},
		{"Inv(10, 5)", two(modn.Inv), small(10), nil, small(5), nil, api.ErrInverse},
		{"Add(1, 1, 1)", modn.Add, small(1), small(1), small(1), nil, api.ErrZero},
		{"Mul(1, 1, 0)", modn.Mul, small(1), small(1), nil, nil, api.ErrZero},
		{"Exp of an e of 129 limbs, the last one 0", modn.Exp, small(3), long, small(1000007), below, api.OK},
		{"Exp of an e of 129 limbs, the last one 1", modn.Exp, small(3), large, small(1000007), nil, api.ErrLarge},
		{"Exp of an e of 129 limbs, the last one 1, m 0", modn.Exp, small(3), large, nil, nil, api.ErrLarge},
	} {
		if got, code := c.ask(c.a, c.b, c.m); !slices.Equal(got, c.want) || code != c.code {
			t.Errorf("%s = %x, %d, want %x, %d", c.name, got, code, c.want, c.code)
		}
	}
}

// moduli: small ones, powers of two and their neighbours, odd and even ones of several limbs.
func moduli() []api.Nat {
	out := []api.Nat{small(2), small(3), small(4), small(5), small(6), small(7), small(9), small(10), small(12), small(255), small(256), small(257), small(1000007), small(6469693230)}
	for _, k := range []int{16, 31, 32, 33, 63, 64, 65, 96, 128, 160} {
		out = append(out, moved(power(k), -1), power(k), moved(power(k), 1))
	}
	r := rand.New(rand.NewSource(1))
	for i := range 8 {
		out = append(out, append(drawn(r, 6), uint32(i+2)))
	}
	return out
}

// All there is modulo small numbers, by numbers of Go's own: a and b below m, at it and above it.
func TestSmallModuli(t *testing.T) {
	for m := uint64(2); m < 26; m++ {
		for a := range 2*m + 2 {
			inverse, none := uint64(0), api.ErrInverse
			for x := range m {
				if x*a%m == 1 {
					inverse, none = x, api.OK
				}
			}
			if got, code := modn.Inv(small(a), small(m)); code != none || !slices.Equal(got, small(inverse)) {
				t.Fatalf("7.3: Inv(%d, %d) = %x, %d, want %d, %d", a, m, got, code, inverse, none)
			}
			raised := 1 % m
			for b := range 2*m + 2 {
				for _, c := range []struct {
					what string
					ask  func(a, b, m api.Nat) (api.Nat, api.Errno)
					want uint64
				}{{"7.1: Add", modn.Add, (a + b) % m}, {"7.1: Sub", modn.Sub, (a + 9*m - b) % m}, {"7.1: Mul", modn.Mul, a * b % m}, {"7.2: Exp", modn.Exp, raised}} {
					if got, code := c.ask(small(a), small(b), small(m)); code != api.OK || !slices.Equal(got, small(c.want)) {
						t.Fatalf("%s(%d, %d, %d) = %x, %d, want %d", c.what, a, b, m, got, code, c.want)
					}
				}
				raised = raised * a % m
			}
		}
	}
}

// a and b about m and its multiples, with noughts on top as each argument.
func TestAboutTheModulus(t *testing.T) {
	for _, m := range moduli() {
		near := []api.Nat{nil, small(1), small(2), moved(m, -2), moved(m, -1), m, moved(m, 1), moved(times(m, 2), -1), times(m, 2), moved(times(m, 2), 1), moved(times(m, 3), -1), times(m, 1<<40), nat.Mul(m, m), moved(nat.Mul(m, m), -1), nat.Shr(m, 1)}
		for i, a := range near {
			for j, b := range near {
				hold(t, a, b, m)
				hold(t, padded(a, i%3), padded(b, j%3), padded(m, (i+j)%3))
			}
		}
	}
}

func TestNought(t *testing.T) {
	noughts := []api.Nat{nil, {}, {0}, {0, 0}, make(api.Nat, 40), make(api.Nat, 129), make(api.Nat, 500)}
	for _, z := range noughts {
		for _, y := range noughts {
			for _, m := range append(moduli(), noughts...) {
				hold(t, z, y, m)
			}
		}
		for _, n := range []api.Nat{small(1), {1, 0}, small(2), {5, 6, 7}, {0, 1}, power(4095)} {
			for _, m := range moduli() {
				hold(t, z, n, m)
				if len(n) < 9 {
					hold(t, n, z, m)
				}
			}
			hold(t, n, small(3), z)
			hold(t, n, n, z)
		}
	}
}

// A modulus 0 or 1 is refused, whatever else is handed in, unless that is too large.
func TestNoModulus(t *testing.T) {
	for _, m := range []api.Nat{nil, {}, {0}, {0, 0}, {1}, {1, 0}, {1, 0, 0}, padded(small(1), 200), make(api.Nat, 200)} {
		for _, a := range []api.Nat{nil, {0}, small(1), small(2), {7, 0, 0}, power(4095), padded(power(4095), 1)} {
			for _, b := range []api.Nat{nil, {0, 0}, small(1), small(9), power(4095), padded(power(4095), 2)} {
				for _, c := range calls() {
					if got, code := c.ask(a, b, m); code != api.ErrZero || got != nil {
						t.Errorf("%s: %s(.., .., %x) = %x, %d, want ErrZero", c.promise, c.name, m, got, code)
					}
				}
			}
		}
	}
	hold(t, small(1), small(1), small(2))
	hold(t, small(1), small(1), padded(small(2), 3))
	hold(t, small(1), small(1), api.Nat{0, 1}) // its lowest limb alone is none
	hold(t, small(1), small(1), api.Nat{1, 1})
}

// At MaxMod limbs, one more whose top limb is 0, one more whose top limb is not, as each argument of every call.
func TestLargest(t *testing.T) {
	top := moved(power(4096), -1)
	fits := []api.Nat{power(4095), top, padded(top, 1), padded(power(4095), 1), padded(top, 300)}
	large := []api.Nat{power(4096), moved(power(4096), 1), append(slices.Clone(top), 1), append(slices.Clone(top), full), padded(power(4096), 1), padded(power(4096), 200), power(4096 + 31), power(4096 + 32), power(5000), power(8192), append(make(api.Nat, 700), 1)}
	few := []api.Nat{nil, small(1), small(2), small(7), {5, 0, 0}}
	for _, c := range calls() {
		for _, n := range fits {
			for _, m := range few {
				c.hold(t, n, small(3), m)
				c.hold(t, small(3), n, m)
				c.hold(t, small(3), small(4), n)
			}
			for _, m := range []api.Nat{moved(top, -1), top, padded(moved(power(4095), 1), 1)} {
				c.hold(t, n, small(3), m)
			}
		}
		for _, n := range large {
			for _, other := range append(few, power(4095), n) {
				for _, m := range few {
					c.hold(t, n, other, m)
					c.hold(t, other, n, m)
				}
				c.hold(t, other, small(1), n)
				c.hold(t, small(1), other, n)
			}
			for i, l := range [][3]api.Nat{{n, small(1), small(7)}, {small(1), n, small(7)}, {small(1), small(1), n}, {n, small(1), nil}, {small(1), n, small(1)}, {n, n, n}} {
				got, code := c.ask(l[0], l[1], l[2])
				if c.name == "Inv" && (i == 1 || i == 4) { // what is too large is not handed to it
					continue
				}
				if code != api.ErrLarge || got != nil {
					t.Errorf("%s: %s with a number of %d limbs, %d: %x, %d, want ErrLarge", c.promise, c.name, len(n), i, got, code)
				}
			}
		}
	}
}

// All numbers of MaxMod limbs at once, an odd and an even modulus.
func TestAllOfThemLarge(t *testing.T) {
	r := rand.New(rand.NewSource(2))
	wide := func() api.Nat {
		n := make(api.Nat, 128)
		for i := range n {
			n[i] = r.Uint32()
		}
		n[127] |= 1 << 31
		return n
	}
	for round := range 4 {
		m := wide()
		m[0] = m[0]&^1 | uint32(round%2)
		hold(t, wide(), wide(), m)
		hold(t, padded(wide(), 1), wide(), padded(m, 1))
	}
	top := moved(power(4096), -1)
	for _, m := range []api.Nat{top, moved(top, -1), power(4095), moved(power(4095), 1)} {
		for _, c := range calls() {
			if c.name == "Exp" {
				c.hold(t, top, small(65537), m)
				continue
			}
			for _, a := range []api.Nat{top, moved(top, -1), moved(top, -2), power(4095), wide()} {
				c.hold(t, a, moved(top, -1), m)
				c.hold(t, moved(top, -1), a, m)
			}
		}
	}
}

func TestExponents(t *testing.T) {
	exp := called("Exp")
	for _, m := range moduli() {
		for _, a := range []api.Nat{nil, {0}, small(1), small(2), small(10), moved(m, -1), m, moved(m, 1), times(m, 5), {full, full, full, full}, {3, 0}} {
			own := reckoned(t, modn.Add, a, nil, m)
			for k := range 3 {
				if got, code := modn.Exp(a, make(api.Nat, k), m); code != api.OK || !slices.Equal(got, small(1)) {
					t.Fatalf("7.2: Exp(%x, 0, %x) = %x, %d, want 1", a, m, got, code)
				}
				if got, code := modn.Exp(a, padded(small(1), k), m); code != api.OK || !slices.Equal(got, own) {
					t.Fatalf("7.2: Exp(%x, 1, %x) = %x, %d, want %x", a, m, got, code, own)
				}
			}
			for e := range uint64(40) {
				exp.hold(t, a, small(e), m)
			}
			for _, e := range []api.Nat{{1 << 31}, {full}, {0, 1}, {1, 1}, {full, full}, {0, 0, 1}, {65537}, {65537, 0}, {1, 2, 3}, power(127), {0, 0, 0, 5, 0}} {
				exp.hold(t, a, e, m)
			}
		}
	}
}

func holdInverse(t *testing.T, a, m api.Nat) {
	t.Helper()
	called("Inv").hold(t, a, nil, m)
	got, code := modn.Inv(a, m)
	shared := new(big.Int).GCD(nil, nil, value(a), value(m))
	if (code == api.OK) != (shared.Cmp(big.NewInt(1)) == 0) || code != api.OK && code != api.ErrInverse {
		t.Fatalf("7.3: Inv(%x, %x) says %d, but %s divides both", a, m, code, shared)
	}
	if code == api.OK && (!slices.Equal(reckoned(t, modn.Mul, a, got, m), small(1)) || nat.Cmp(got, m) >= 0) {
		t.Fatalf("7.3: Inv(%x, %x) = %x", a, m, got)
	}
}

// 1 and m - 1 are their own inverses; what shares a divisor with m has none; odd and even moduli.
func TestInverses(t *testing.T) {
	for _, m := range append(moduli(), moved(power(4096), -1), power(4095), moved(power(4095), 9), moved(power(4096), -2)) {
		for _, own := range []api.Nat{small(1), moved(m, -1)} {
			if got, code := modn.Inv(own, m); code != api.OK || !slices.Equal(got, own) {
				t.Errorf("7.3: Inv(%x, %x) = %x, %d, want itself", own, m, got, code)
			}
		}
		if nat.Bits(m) > 4000 {
			continue
		}
		for _, multiple := range []api.Nat{nil, {0, 0}, m, padded(m, 2), times(m, 2), times(m, 3), times(m, 1<<33), nat.Mul(m, m)} {
			if got, code := modn.Inv(multiple, m); code != api.ErrInverse || got != nil {
				t.Errorf("7.3: Inv(%x, %x) = %x, %d, want ErrInverse", multiple, m, got, code)
			}
		}
		for _, d := range []uint64{2, 3, 5, 7, 1 << 20, 3 << 33, 1<<61 - 1} {
			wide := times(m, d)
			for _, a := range []uint64{1, 2, 3, 4, 15, 1 << 40} {
				if got, code := modn.Inv(times(small(d), a), wide); code != api.ErrInverse || got != nil {
					t.Errorf("7.3: Inv(%d times %d, %x) = %x, %d, want ErrInverse", d, a, wide, got, code)
				}
				holdInverse(t, moved(times(small(d), a), 1), wide)
				holdInverse(t, moved(times(small(d), a), -1), wide)
			}
		}
		for a := range uint64(70) {
			holdInverse(t, small(a), m)
			holdInverse(t, moved(m, int64(a)), m)
		}
	}
}

func TestInversesOfPowersOfTwo(t *testing.T) {
	r := rand.New(rand.NewSource(3))
	for k := 1; k < 200; k++ {
		for range 4 {
			a := drawn(r, 8)
			holdInverse(t, a, power(k))
			holdInverse(t, append(api.Nat{1 | r.Uint32()}, a...), power(k))
			// And a power of two modulo an odd number.
			holdInverse(t, power(k), append(api.Nat{3 | r.Uint32()}, a...))
		}
	}
}

// Modulo a prime every number but its multiples has an inverse: by Fermat, the power m - 2.
func TestPrimes(t *testing.T) {
	r := rand.New(rand.NewSource(4))
	p256, _ := new(big.Int).SetString("ffffffff00000001000000000000000000000000ffffffffffffffffffffffff", 16)
	for _, m := range []api.Nat{small(3), small(5), small(257), small(65537), small(1<<31 - 1), small(1<<61 - 1), moved(power(127), -1), moved(power(255), -19), number(p256), moved(power(521), -1)} {
		for range 12 {
			a := drawn(r, 17)
			inverse, code := modn.Inv(a, m)
			if value(reckoned(t, modn.Add, a, nil, m)).Sign() == 0 {
				if code != api.ErrInverse {
					t.Fatalf("7.3: Inv(%x, %x) says %d", a, m, code)
				}
				continue
			}
			answer(t, inverse, code)
			if got := reckoned(t, modn.Exp, a, moved(m, -2), m); !slices.Equal(got, inverse) {
				t.Fatalf("7.3: Inv(%x, %x) = %x, but the power is %x", a, m, inverse, got)
			}
			if got := reckoned(t, modn.Exp, a, moved(m, -1), m); !slices.Equal(got, small(1)) {
				t.Fatalf("7.2: Exp(%x, m - 1, %x) = %x, want 1", a, m, got)
			}
		}
	}
}

func TestAgainstBig(t *testing.T) {
	r := rand.New(rand.NewSource(5))
	for range 4000 {
		hold(t, drawn(r, 9), drawn(r, 4), drawn(r, 7))
		holdInverseIfAny(t, drawn(r, 12), drawn(r, 9))
	}
	for range 40 {
		hold(t, drawn(r, 140), drawn(r, 3), drawn(r, 140))
	}
}

func holdInverseIfAny(t *testing.T, a, m api.Nat) {
	t.Helper()
	if value(m).BitLen() > 1 {
		holdInverse(t, a, m)
	}
}

// The laws, at numbers of unlike sizes, modulo small and great, odd and even ones.
func TestLaws(t *testing.T) {
	r := rand.New(rand.NewSource(6))
	for round := range 1500 {
		m := append(drawn(r, round%9), 2+r.Uint32()>>(1+r.Intn(30)))
		a, b, c := drawn(r, r.Intn(14)), drawn(r, r.Intn(14)), drawn(r, r.Intn(14))
		holdLaws(t, a, b, c, m)
		holdPowerLaws(t, a, drawn(r, r.Intn(4)), drawn(r, r.Intn(4)), m)
	}
	top := moved(power(4096), -1)
	for _, m := range []api.Nat{top, moved(top, -1), power(4095), moved(power(4000), -17)} {
		holdLaws(t, moved(top, -3), power(4094), small(5), m)
		holdLaws(t, top, drawn(r, 128), drawn(r, 100), m)
		holdPowerLaws(t, moved(top, -3), small(1000), small(13), m)
	}
}

func holdLaws(t *testing.T, a, b, c, m api.Nat) {
	t.Helper()
	reckon := func(ask func(a, b, m api.Nat) (api.Nat, api.Errno), x, y api.Nat) api.Nat {
		t.Helper()
		return reckoned(t, ask, x, y, m)
	}
	add := func(x, y api.Nat) api.Nat { return reckon(modn.Add, x, y) }
	mul := func(x, y api.Nat) api.Nat { return reckon(modn.Mul, x, y) }
	same := func(what string, x, y api.Nat) {
		t.Helper()
		if !slices.Equal(x, y) {
			t.Fatalf("7.4: %s: %x and %x, of %x, %x, %x modulo %x", what, x, y, a, b, c, m)
		}
	}
	own := number(new(big.Int).Mod(value(a), value(m)))
	same("a b = b a", mul(a, b), mul(b, a))
	same("(a b) c = a (b c)", mul(mul(a, b), c), mul(a, mul(b, c)))
	same("a (b + c) = a b + a c", mul(a, add(b, c)), add(mul(a, b), mul(a, c)))
	same("(a + b) - b = a", reckon(modn.Sub, add(a, b), b), own)
	same("(a - b) + b = a", add(reckon(modn.Sub, a, b), b), own)
	same("a - a = 0", reckon(modn.Sub, a, a), nil)
	x, code := modn.Inv(a, m)
	y, other := modn.Inv(b, m)
	product, both := modn.Inv(mul(a, b), m)
	if (both == api.OK) != (code == api.OK && other == api.OK) {
		t.Fatalf("7.4: inverses of %x, %x and their product modulo %x: %d, %d, %d", a, b, m, code, other, both)
	}
	if code == api.OK {
		back, again := modn.Inv(x, m)
		same("Inv(Inv(a)) = a", answer(t, back, again), own)
		same("a Inv(a) = 1", mul(a, x), small(1))
	}
	if both == api.OK {
		same("Inv(a b) = Inv(a) Inv(b)", product, mul(x, y))
	}
}

func holdPowerLaws(t *testing.T, a, e, f, m api.Nat) {
	t.Helper()
	exp := func(e api.Nat) api.Nat { return reckoned(t, modn.Exp, a, e, m) }
	own := number(new(big.Int).Mod(value(a), value(m)))
	for _, law := range []struct {
		what string
		x, y api.Nat
	}{
		{"Exp(a, e + f) = Exp(a, e) Exp(a, f)", exp(nat.Add(e, f)), reckoned(t, modn.Mul, exp(e), exp(f), m)},
		{"Exp(a, 1) = a", exp(small(1)), own},
		{"Exp(a, 0) = 1", exp(nil), small(1)},
	} {
		if !slices.Equal(law.x, law.y) {
			t.Fatalf("7.4: %s: %x and %x, of %x, %x, %x modulo %x", law.what, law.x, law.y, a, e, f, m)
		}
	}
}

func FuzzCalls(f *testing.F) {
	f.Add([]byte{5}, []byte{9}, []byte{7}, byte(0))
	f.Add([]byte{7}, []byte{}, []byte{1, 0, 0, 0, 0, 0, 0, 0, 0}, byte(1))
	f.Add([]byte{}, []byte{0}, []byte{2}, byte(2))
	f.Add([]byte{10}, []byte{1, 0, 0, 0, 1}, []byte{5}, byte(129))
	f.Fuzz(func(t *testing.T, a, b, m []byte, noughts byte) {
		x, y, z := nat.FromBytes(a), nat.FromBytes(b), nat.FromBytes(m)
		if nat.Bits(y) > 400 { // a great power takes long
			y = y[:12]
		}
		k := int(noughts)
		hold(t, x, y, z)
		hold(t, padded(x, k), padded(y, k/2), padded(z, k/3))
		hold(t, z, x[:min(len(x), 12)], z)
		holdInverseIfAny(t, x[:min(len(x), 128)], z[:min(len(z), 128)])
	})
}
