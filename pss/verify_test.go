package pss_test

import (
	"math/big"
	"math/rand"
	"slices"
	"testing"

	"signet/api"
	"signet/pss"
)

// Sigs of another length, or of a number that is not below n.
func TestSigEdges(t *testing.T) {
	message := []byte("a message")
	for _, h := range hashes {
		for _, digits := range []int{2048, 2049, 2050, 2055, 2056, 2057, 4095, 4096} {
			n, sig := signed(t, h, message, digits)
			size := len(n)
			mustVerify(t, "10.4", api.OK, h, n, three, message, sig)
			rows := map[string][]byte{
				"no sig":                  nil,
				"one byte less ahead":     sig[1:],
				"one byte less behind":    sig[:size-1],
				"a byte 0 more ahead":     append([]byte{0}, sig...),
				"a byte more behind":      append(slices.Clone(sig), 0),
				"nought":                  make([]byte, size),
				"one":                     sized(big.NewInt(1), size),
				"just below n":            sized(plus(number(n), -1), size),
				"n":                       n,
				"the greatest":            ones(size),
				"n less s":                sized(new(big.Int).Sub(number(n), number(sig)), size),
				"one more than the sig":   sized(plus(number(sig), 1), size),
				"one less than the sig":   sized(plus(number(sig), -1), size),
				"two bytes 0 more":        append([]byte{0, 0}, sig...),
				"the least bytes of s":    number(sig).Bytes(),
				"the message":             message,
				"the sig twice":           slices.Concat(sig, sig),
				"s and n, a byte too far": new(big.Int).Add(number(sig), new(big.Int).Lsh(number(n), 9)).Bytes(),
			}
			for what, other := range rows {
				mustVerify(t, "10.4: "+what, api.ErrSignature, h, n, three, message, other)
			}
			if digits%8 != 0 { // numbers of one power with s, in just as many bytes
				for x := new(big.Int).Add(number(sig), number(n)); len(x.Bytes()) <= size; x.Add(x, number(n)) {
					mustVerify(t, "10.4: s and n", api.ErrSignature, h, n, three, message, sized(x, size))
				}
				mustVerify(t, "10.4: n and 1", api.ErrSignature, h, n, three, message, sized(plus(number(n), 1), size))
			}
		}
	}
}

// Numbers just below n: their powers lie just below n too, and are no encodings.
func TestJustBelow(t *testing.T) {
	for _, h := range hashes {
		for _, digits := range []int{2048, 2049, 4096} {
			n := plus(power(digits-1), 12345)
			for by := int64(1); by < 9; by++ {
				mustVerify(t, "10.4", api.ErrSignature, h, n.Bytes(), three, []byte("m"), sized(plus(n, -by), bytesFor(digits)))
			}
		}
	}
}

// A power of more bits than the encoding has: in the same bytes, or in a byte more.
func TestPowersTooGreat(t *testing.T) {
	message := []byte("a message")
	for _, h := range hashes {
		for _, digits := range []int{2048, 2049, 2050, 2055, 2056, 2057, 2065, 3073, 4089, 4096} {
			b := digits - 1
			m := number(encoded(t, h, message, saltFor(h, 1), b))
			n, sig := keyFor(t, m, digits)
			mustVerify(t, "10.4", api.OK, h, n, three, message, sig)
			great := new(big.Int).Add(m, power(b))
			n, sig = keyFor(t, great, digits)
			if number(n).Cmp(great) <= 0 {
				t.Fatal("the power is not below n")
			}
			mustVerify(t, "10.4: a power too great", api.ErrSignature, h, n, three, message, sig)
			fits := len(great.Bytes()) <= bytesFor(b)
			if fits == (digits%8 == 1) {
				t.Fatalf("%d digits: the power fits: %t", digits, fits)
			}
			// The least power that is too great, and the greatest that is not.
			for _, by := range []int64{-1, 0, 1, 0xbc} {
				n, sig = keyFor(t, plus(power(b), by), digits)
				mustVerify(t, "10.4: about the least too great", api.ErrSignature, h, n, three, message, sig)
			}
		}
	}
}

// Encodings for other bits than those of n less 1.
func TestOtherBits(t *testing.T) {
	message := []byte("a message")
	taken, refused := 0, 0
	for _, h := range hashes {
		for digits := 2048; digits < 2066; digits++ {
			for by := -17; by <= 0; by++ {
				em := encoded(t, h, message, saltFor(h, digits), digits+by)
				if number(em).BitLen() >= digits { // n could not be above it
					continue
				}
				n, sig := keyFor(t, number(em), digits)
				want := wantVerify(h, n, three, message, sig)
				mustVerify(t, "10.4: an encoding for other bits", want, h, n, three, message, sig)
				if want == api.OK {
					taken++
				} else {
					refused++
				}
			}
		}
	}
	if taken == 0 || refused == 0 {
		t.Errorf("%d taken, %d refused", taken, refused)
	}
}

// 10.6, at numbers s of the test's own choice: n, or so many times n, is s^3 less the encoding.
func TestComplete(t *testing.T) {
	r := rand.New(rand.NewSource(3))
	for _, times := range []int64{1, 5, 11, 17, 101, 65537, 1<<32 - 5} {
		for _, digits := range []int{2048, 2049, 2055, 2056, 2500, 4096} {
			for _, h := range hashes {
				message, salt := drawnBytes(r, r.Intn(100)), drawnBytes(r, sumLen(h))
				em, code := pss.Encode(h, sum(h, message), salt, digits-1)
				if code != api.OK {
					t.Fatalf("10.2: Encode(%d, .., %d) says %d", h, digits-1, code)
				}
				s, n := drawnRoot(t, r, number(em), digits, times)
				mustVerify(t, "10.6", api.OK, h, n.Bytes(), three, message, sized(s, bytesFor(digits)))
				mustVerify(t, "10.5", api.ErrSignature, h, n.Bytes(), three, append(message, 0), sized(s, bytesFor(digits)))
			}
		}
	}
	// Every number of digits that a key may have.
	for digits := 2048; digits <= 4096; digits++ {
		h := hashes[digits%3]
		n, sig := signed(t, h, []byte("all"), digits)
		mustVerify(t, "10.6", api.OK, h, n, three, []byte("all"), sig)
		mustVerify(t, "10.5", api.ErrSignature, h, n, three, []byte("al"), sig)
	}
	// Salts of all kinds of bytes.
	for _, h := range hashes {
		hl := sumLen(h)
		for _, salt := range [][]byte{make([]byte, hl), ones(hl), sized(big.NewInt(1), hl), slices.Repeat([]byte{1}, hl), slices.Repeat([]byte{0xbc}, hl), append(ones(hl-1), 0), append([]byte{0}, ones(hl-1)...)} {
			for digits := 2048; digits < 2058; digits++ {
				n, sig := keyFor(t, number(encoded(t, h, []byte("salt"), salt, digits-1)), digits)
				mustVerify(t, "10.6", api.OK, h, n, three, []byte("salt"), sig)
			}
		}
	}
}

// drawnRoot: an s, and an odd n of so many digits, with s^3 = m + so many times n. The times are 1, or a prime modulo which every number has one third root: one that leaves 2, divided by 3.
func drawnRoot(t *testing.T, r *rand.Rand, m *big.Int, digits int, times int64) (s, n *big.Int) {
	t.Helper()
	k, undo := big.NewInt(times), big.NewInt(1)
	if times > 1 {
		undo.ModInverse(big.NewInt(3), plus(k, -1))
	}
	middle := new(big.Int).Mul(k, new(big.Int).Lsh(big.NewInt(3), uint(digits-2)))
	s = root(middle.Add(middle, m))
	s.Sub(s, new(big.Int).Rand(r, power(digits/4)))
	s.Sub(s, new(big.Int).Mod(s, k)).Add(s, new(big.Int).Exp(m, undo, k))
	if s.Bit(0) == m.Bit(0) { // n would be even
		s.Add(s, k)
	}
	n, rest := new(big.Int).DivMod(new(big.Int).Sub(cubed(s), m), k, new(big.Int))
	if rest.Sign() != 0 || n.Bit(0) == 0 || n.BitLen() != digits || n.Cmp(s) <= 0 || n.Cmp(m) <= 0 {
		t.Fatalf("no key of %d digits, %d times, for %x", digits, times, m)
	}
	return s, n
}

// 10.5, at keys whose owners can sign, with small and great e.
func TestJustThese(t *testing.T) {
	r := rand.New(rand.NewSource(4))
	for _, c := range []struct {
		digits int
		e      int64
	}{{2048, 3}, {2048, 65537}, {2049, 5}, {2055, 17}, {2056, 1<<32 - 1}, {2057, 65537}, {2560, 1<<31 + 11}, {3072, 65537}, {3077, 257}, {4095, 7}, {4096, 65537}, {4096, 1<<32 - 1}} {
		k := drawnSigner(r, c.digits, c.e)
		n, e := k.parts()
		for _, h := range hashes {
			message := drawnBytes(r, 1+r.Intn(200))
			for range 3 { // any salt
				salt := drawnBytes(r, sumLen(h))
				em := encoded(t, h, message, salt, c.digits-1)
				sig := k.sign(number(em))
				mustVerify(t, "10.5", api.OK, h, n, e, message, sig)
				mustVerify(t, "10.5", api.ErrSignature, h, n, e, message, changed(sig, r.Intn(len(sig)), 1<<r.Intn(8)))
				mustVerify(t, "10.5", api.ErrSignature, h, n, e, changed(message, r.Intn(len(message)), 1<<r.Intn(8)), sig)
				mustVerify(t, "10.5", api.ErrSignature, h, n, e, message, k.sign(number(changed(em, len(em)-1-r.Intn(len(em)-1), 1<<r.Intn(8)))))
				holdVerify(t, "10.5", h, changed(n, 1+r.Intn(len(n)-2), 1<<r.Intn(8)), e, message, sig)
				for _, other := range []int64{3, 5, 65537, c.e + 2, c.e - 2, 1<<32 - 1} {
					holdVerify(t, "10.5", h, n, big.NewInt(other).Bytes(), message, sig)
				}
				for _, other := range hashes {
					holdVerify(t, "10.5", other, n, e, message, sig)
				}
			}
		}
	}
}

// Each bit of an opened encoding, and each bit of e, shows.
func TestEachBit(t *testing.T) {
	message := []byte("pay 10")
	for _, h := range hashes {
		for _, digits := range []int{2048, 2049} {
			em := encoded(t, h, message, saltFor(h, 9), digits-1)
			for i := range em {
				for bit := range 8 {
					m := number(changed(em, i, 1<<bit))
					n, sig := keyFor(t, m, digits)
					mustVerify(t, "10.4: one bit else", api.ErrSignature, h, n, three, message, sig)
				}
			}
		}
	}
	r := rand.New(rand.NewSource(5))
	k := drawnSigner(r, 2048, 1<<32-1)
	n, e := k.parts()
	sig := k.sign(number(encoded(t, api.SHA256, []byte("e"), saltFor(api.SHA256, 0), 2047)))
	mustVerify(t, "10.5", api.OK, api.SHA256, n, e, []byte("e"), sig)
	for bit := 1; bit < 32; bit++ {
		mustVerify(t, "10.5", api.ErrSignature, api.SHA256, n, big.NewInt(1<<32-1-1<<bit).Bytes(), []byte("e"), sig)
	}
}

// Messages of all lengths about those of a block, and other messages under the same sig.
func TestMessages(t *testing.T) {
	for _, h := range hashes {
		for _, size := range []int{0, 1, 55, 56, 63, 64, 65, 111, 112, 127, 128, 129, 1000, 1 << 16} {
			message := saltsOf(h, size)
			n, sig := signed(t, h, message, 2048)
			mustVerify(t, "10.4", api.OK, h, n, three, message, sig)
			for _, other := range [][]byte{append(slices.Clone(message), 0), append([]byte{0}, message...), append(slices.Clone(message), 0x80), sum(h, message), sig, n} {
				mustVerify(t, "10.4: another message", api.ErrSignature, h, n, three, other, sig)
			}
			if size > 0 {
				mustVerify(t, "10.4: another message", api.ErrSignature, h, n, three, message[1:], sig)
				mustVerify(t, "10.4: another message", api.ErrSignature, h, n, three, nil, sig)
			}
			for _, other := range hashes {
				if other != h {
					mustVerify(t, "10.4: another hash", api.ErrSignature, other, n, three, message, sig)
				}
			}
		}
	}
}
