package ed_test

import (
	"bytes"
	"fmt"
	"math/big"
	"math/rand"
	"slices"
	"testing"

	"signet/api"
	"signet/ed"
)

// 13.6: for all numbers, be they nought, the order's multiples or great, and every message.
func TestComplete(t *testing.T) {
	t.Parallel()
	r := rand.New(rand.NewSource(31))
	numbers := []*big.Int{new(big.Int), big.NewInt(1), big.NewInt(2), plus(order, -1), order, plus(order, 1), times(order, 8), power(254), plus(power(256), -1), power(500), drawn(r, 252), drawn(r, 600)}
	for _, a := range numbers {
		o := signerOf(a)
		for j, n := range numbers {
			message := drawnBytes(r, j*j)
			sig := o.sign(message, n)
			mustVerify(t, "13.6", api.OK, o.pub, message, sig)
			if new(big.Int).Mod(a, order).Sign() != 0 { // under the neutral key a signature holds for every message
				mustVerify(t, "13.4: another message", api.ErrSignature, o.pub, append(message, 0), sig)
			}
		}
	}
}

// 13.6 again, with what the program itself reckons: A = Mul(a, B), R = Mul(r, B).
func TestCompleteByItself(t *testing.T) {
	t.Parallel()
	r := rand.New(rand.NewSource(32))
	for range 20 {
		a, n, message := drawn(r, 1024), drawn(r, 1024), drawnBytes(r, r.Intn(300))
		pub, code := ed.Encode(multiplied(t, a, ed.Base()))
		first, code2 := ed.Encode(multiplied(t, n, ed.Base()))
		if code != api.OK || code2 != api.OK {
			t.Fatalf("13.2: %d, %d", code, code2)
		}
		mustVerify(t, "13.6", api.OK, pub, message, signer{a, pub}.answerTo(first, message, n))
	}
}

// 13.7: S and any multiple of L are not both taken; nor is any other number.
func TestOneS(t *testing.T) {
	t.Parallel()
	r := rand.New(rand.NewSource(33))
	e := smalls()
	one := neutral().bytes()
	rows := []struct{ pub, message, sig []byte }{{one, nil, slices.Concat(one, make([]byte, 32))}, {one, nil, slices.Concat(base().bytes(), low(big.NewInt(1)))}, {one, []byte("m"), slices.Concat(base().neg().bytes(), low(plus(order, -1)))}}
	for _, a := range []*big.Int{big.NewInt(1), big.NewInt(7), drawn(r, 252)} {
		o, message := signerOf(a), drawnBytes(r, 30)
		rows = append(rows, struct{ pub, message, sig []byte }{o.pub, message, o.sign(message, drawn(r, 252))})
	}
	for _, message := range findMessages(e[1], neutral(), 2) {
		rows = append(rows, struct{ pub, message, sig []byte }{e[1].bytes(), message, slices.Concat(one, make([]byte, 32))})
	}
	for _, row := range rows {
		mustVerify(t, "13.4", api.OK, row.pub, row.message, row.sig)
		first, s := row.sig[:32], fromLow(row.sig[32:])
		for n := int64(1); n < 16; n++ {
			more := new(big.Int).Add(s, times(order, n))
			if more.BitLen() > 256 {
				break
			}
			mustVerify(t, fmt.Sprintf("13.7: S and %d L", n), api.ErrSignature, row.pub, row.message, slices.Concat(first, low(more)))
		}
		opposite := new(big.Int).Sub(order, s)
		for _, other := range []*big.Int{opposite, plus(s, 1), new(big.Int).Xor(s, power(252)), new(big.Int).Xor(s, power(255)), order, plus(order, 1), plus(power(256), -1), drawn(r, 252)} {
			if other.Cmp(s) != 0 {
				mustVerify(t, "13.7: another S", api.ErrSignature, row.pub, row.message, slices.Concat(first, low(other)))
			}
		}
	}
}

// The edges of S: nought and L - 1 are taken where they hold, L and all above it never are.
func TestEdgesOfS(t *testing.T) {
	t.Parallel()
	message := []byte("a message")
	// Under the neutral key R = S B is all that is asked for.
	pub := neutral().bytes()
	for _, s := range []*big.Int{new(big.Int), big.NewInt(1), plus(order, -2), plus(order, -1), order, plus(order, 1), times(order, 2), power(252), plus(power(252), -1), power(253), power(255), plus(power(256), -1), prime} {
		want := api.OK
		if s.Cmp(order) >= 0 {
			want = api.ErrSignature
		}
		mustVerify(t, "13.4: S at an edge", want, pub, message, slices.Concat(base().mul(s).bytes(), low(s)))
	}
}

// findMessages: some messages for which k makes, of a point of small order, the opposite of rest, with the bytes of rest as the first half.
func findMessages(e, rest spot, count int) [][]byte {
	var out [][]byte
	for i := 0; len(out) < count; i++ {
		message := []byte(fmt.Sprint("message ", i))
		if e.mul(challenge(rest.bytes(), e.bytes(), message)).neg().is(rest) {
			out = append(out, message)
		}
	}
	return out
}

// Keys of small order are keys, and what holds under them is what the equation says, without the cofactor.
func TestSmallKeys(t *testing.T) {
	t.Parallel()
	e := smalls()
	for i, key := range e {
		taken := 0
		for n := range 24 {
			message := []byte{byte(n)}
			for _, rest := range []spot{e[0], e[n%8]} {
				sig := slices.Concat(rest.bytes(), make([]byte, 32))
				k := challenge(rest.bytes(), key.bytes(), message)
				want := api.ErrSignature
				if key.mul(k).neg().is(rest) {
					want = api.OK
					taken++
				}
				mustVerify(t, "13.4: a small key", want, key.bytes(), message, sig)
			}
		}
		if i > 0 && (taken == 0 || taken == 48) {
			t.Errorf("13.4: key %d of small order: %d of 48 taken", i, taken)
		}
		if i == 0 && taken < 24 {
			t.Errorf("13.4: the neutral key: %d taken", taken)
		}
	}
}

// One signature under a key of small order holds for many messages.
func TestOneForMany(t *testing.T) {
	t.Parallel()
	e := smalls()
	sig := slices.Concat(neutral().bytes(), make([]byte, 32))
	for _, key := range e {
		for _, message := range findMessages(key, neutral(), 5) {
			mustVerify(t, "13.4", api.OK, key.bytes(), message, sig)
		}
	}
}

// Keys A = a B + T and first halves r B + j T: just those hold of which k T + j T is the neutral point, where k is less than L.
func TestMixedKeys(t *testing.T) {
	t.Parallel()
	rnd := rand.New(rand.NewSource(34))
	count := map[api.Errno]int{}
	for _, e := range smalls()[1:] {
		a, r := drawn(rnd, 252), drawn(rnd, 252)
		o := signer{a, base().mul(a).add(e).bytes()}
		for n := range 3 {
			message := drawnBytes(rnd, n)
			for j := range int64(8) {
				first := base().mul(r).add(e.mul(big.NewInt(j))).bytes()
				want := api.ErrSignature
				if e.mul(plus(challenge(first, o.pub, message), j)).is(neutral()) {
					want = api.OK
				}
				count[want]++
				mustVerify(t, "13.4: a mixed key", want, o.pub, message, o.answerTo(first, message, r))
			}
		}
	}
	if count[api.OK] < 10 || count[api.ErrSignature] < 50 {
		t.Errorf("%v", count)
	}
}

// First halves with a part of small order under a key that has none: refused, though eight times the equation holds.
func TestMixedFirstHalves(t *testing.T) {
	t.Parallel()
	o, r, message := signerOf(big.NewInt(31337)), big.NewInt(4711), []byte("a message")
	for i, e := range smalls() {
		want := api.ErrSignature
		if i == 0 {
			want = api.OK
		}
		first := base().mul(r).add(e).bytes()
		mustVerify(t, "13.4: without the cofactor", want, o.pub, message, o.answerTo(first, message, r))
	}
}

// First halves that are no point's bytes, but would be with p taken off y, or without the bit at x = 0.
func TestFirstHalves(t *testing.T) {
	t.Parallel()
	message := []byte("a message")
	pub, one := neutral().bytes(), neutral().bytes()
	zero := make([]byte, 32)
	mustVerify(t, "13.4", api.OK, pub, message, slices.Concat(one, zero))
	for what, first := range wrongKeys(one) {
		if len(first) == 32 {
			mustVerify(t, "13.4: first half: "+what, api.ErrSignature, pub, message, slices.Concat(first, zero))
		}
	}
	// Under a key of the order 4, where k may be anything, no message makes it hold.
	for n := range 8 {
		for _, first := range [][]byte{low(plus(prime, 1)), changed(one, 31, 0x80), low(prime), changed(low(prime), 31, 0x80), changed(low(plus(prime, -1)), 31, 0x80)} {
			mustVerify(t, "13.4: first half", api.ErrSignature, smalls()[2].bytes(), []byte{byte(n)}, slices.Concat(first, zero))
		}
	}
}

// Each byte of a signature, a key and a message counts.
func TestEachByte(t *testing.T) {
	t.Parallel()
	message := []byte("pay ten to the bearer")
	pub, sig := signed(message)
	mustVerify(t, "13.4", api.OK, pub, message, sig)
	for i := range sig {
		for bit := range 8 {
			mustVerify(t, "13.4: signature", api.ErrSignature, pub, message, changed(sig, i, 1<<bit))
		}
	}
	for i := range pub {
		for _, bit := range []int{0, 7, i % 8} {
			if got := holdVerify(t, "13.4: key", changed(pub, i, 1<<bit), message, sig); got == api.OK {
				t.Fatalf("13.4: byte %d of the key does not count", i)
			}
		}
	}
	for i := range message {
		mustVerify(t, "13.4: message", api.ErrSignature, pub, changed(message, i, 1<<(i%8)), sig)
	}
	s, code := wantDecode(pub)
	if code != api.OK {
		t.Fatal(code)
	}
	key, _ := of(s)
	mustVerify(t, "13.4: the opposite key", api.ErrSignature, key.neg().bytes(), message, sig)
}

// Signatures of every length but the one, and in other forms.
func TestLengths(t *testing.T) {
	t.Parallel()
	message := []byte("a message")
	pub, sig := signed(message)
	long := slices.Concat(sig, make([]byte, 100))
	for n := range long {
		want := api.ErrSignature
		if n == 64 {
			want = api.OK
		}
		mustVerify(t, "13.4", want, pub, message, long[:n])
		if n > 0 && n < len(sig) {
			mustVerify(t, "13.4", api.ErrSignature, pub, message, sig[n:])
			mustVerify(t, "13.4", api.ErrSignature, pub, message, append(make([]byte, n), sig...))
		}
	}
	for n := range 100 { // S = 0 in other numbers of bytes
		want := api.ErrSignature
		if n == 32 {
			want = api.OK
		}
		mustVerify(t, "13.4", want, neutral().bytes(), message, append(neutral().bytes(), make([]byte, n)...))
	}
	for what, row := range map[string][]byte{
		"twice":                  slices.Concat(sig, sig),
		"the halves changed":     slices.Concat(sig[32:], sig[:32]),
		"the highest byte first": reversed(sig),
		"S the highest first":    slices.Concat(sig[:32], reversed(sig[32:])),
		"R the highest first":    slices.Concat(reversed(sig[:32]), sig[32:]),
		"a byte less and more":   append(slices.Clone(sig[1:]), 0),
		"a 0 between":            slices.Concat(sig[:32], []byte{0}, sig[32:]),
	} {
		mustVerify(t, "13.4: "+what, api.ErrSignature, pub, message, row)
	}
}

// Messages of all lengths about those of a block, and others under the same signature.
func TestMessages(t *testing.T) {
	t.Parallel()
	for _, size := range []int{0, 1, 2, 31, 32, 46, 47, 48, 49, 63, 64, 65, 127, 128, 175, 176, 192, 1000, 1 << 16} {
		message := bytes.Repeat([]byte{'m'}, size)
		pub, sig := signed(message)
		mustVerify(t, "13.4", api.OK, pub, message, sig)
		mustVerify(t, "13.4: another message", api.ErrSignature, pub, append(slices.Clone(message), 0), sig)
		mustVerify(t, "13.4: another message", api.ErrSignature, pub, append([]byte{0}, message...), sig)
	}
	pub, sig := signed(nil)
	mustVerify(t, "13.4: no message", api.OK, pub, []byte{}, sig)
}

// Drawn bytes under keys of all kinds; nearly nothing of it holds.
func TestDrawn(t *testing.T) {
	t.Parallel()
	rnd := rand.New(rand.NewSource(35))
	all := points(t)
	for range 60 {
		pub, first := all[rnd.Intn(len(all))].bytes(), all[rnd.Intn(len(all))].bytes()
		s := []*big.Int{new(big.Int), big.NewInt(1), plus(order, -1), drawn(rnd, 252), drawn(rnd, 256)}[rnd.Intn(5)]
		holdVerify(t, "13.4", pub, drawnBytes(rnd, rnd.Intn(20)), slices.Concat(first, low(s)))
	}
}
