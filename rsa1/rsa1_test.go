package rsa1_test

import (
	"bytes"
	"math"
	"math/big"
	"math/rand"
	"slices"
	"testing"

	"signet/api"
	"signet/rsa1"
)

// The rows of the chapter's table.
func TestExamples(t *testing.T) {
	n := ones(256)
	for _, c := range []struct {
		n, e []byte
		want api.Errno
	}{
		{n, unhex("01 00 01"), api.OK},
		{append([]byte{0x7f}, ones(255)...), usual, api.ErrKey},
		{append([]byte{0}, n...), usual, api.ErrKey},
		{append(ones(255), 0xfe), usual, api.ErrKey},
		{n, unhex("01"), api.ErrKey},
		{n, unhex("02"), api.ErrKey},
		{n, unhex("01 00 00 00 01"), api.ErrKey},
		{n, unhex("00 03"), api.ErrKey},
		{n, unhex("ff ff ff ff"), api.OK},
	} {
		if got := rsa1.Key(c.n, c.e); got != c.want {
			t.Errorf("9.1: Key(%d bytes %.4x .., %x) says %d, want %d", len(c.n), c.n, c.e, got, c.want)
		}
	}
	m := []byte("m")
	for _, c := range []struct {
		h    api.Hash
		size int
		want api.Errno
	}{{api.SHA256, 62, api.OK}, {api.SHA256, 61, api.ErrKey}, {api.SHA512, 94, api.OK}, {api.SHA384, 513, api.ErrKey}, {4, 256, api.ErrAlg}} {
		b, code := rsa1.Encode(c.h, m, c.size)
		if code != c.want || code == api.OK && len(b) != c.size || code != api.OK && b != nil {
			t.Errorf("9.2: Encode(%d, m, %d) = %x, %d, want %d", c.h, c.size, b, code, c.want)
		}
		if code == api.OK && !bytes.HasPrefix(b, unhex("00 01 ff ff ff ff ff ff ff ff 00 30")) {
			t.Errorf("9.2: Encode(%d, m, %d) = %x: not just eight ff", c.h, c.size, b)
		}
	}
	for _, sig := range [][]byte{make([]byte, 255), make([]byte, 257), ones(255), ones(257), n} {
		if got := rsa1.Verify(api.SHA256, n, usual, m, sig); got != api.ErrSignature {
			t.Errorf("9.3: Verify with a sig of %d bytes %.4x .. says %d", len(sig), sig, got)
		}
	}
}

// Encodings written out, for the message abc: they hang on no other program.
func TestEncodeWritten(t *testing.T) {
	for _, c := range []struct {
		h    api.Hash
		size int
		want string
	}{
		{api.SHA256, 63, "00 01 ffffffffffffffffff 00 30 31 30 0d 06 09 60 86 48 01 65 03 04 02 01 05 00 04 20 ba7816bf 8f01cfea 414140de 5dae2223 b00361a3 96177a9c b410ff61 f20015ad"},
		{api.SHA384, 78, "00 01 ffffffffffffffff 00 30 41 30 0d 06 09 60 86 48 01 65 03 04 02 02 05 00 04 30 cb00753f 45a35e8b b5a03d69 9ac65007 272c32ab 0eded163 1a8b605a 43ff5bed 8086072b a1e7cc23 58baeca1 34c825a7"},
		{api.SHA512, 96, "00 01 ffffffffffffffffffff 00 30 51 30 0d 06 09 60 86 48 01 65 03 04 02 03 05 00 04 40 ddaf35a1 93617aba cc417349 ae204131 12e6fa4e 89a97ea2 0a9eeee6 4b55d39a 2192992a 274fc1a8 36ba3c23 a3feebbd 454d4423 643ce80e 2a9ac94f a54ca49f"},
	} {
		if b, code := rsa1.Encode(c.h, []byte("abc"), c.size); code != api.OK || !bytes.Equal(b, unhex(c.want)) {
			t.Errorf("9.2: Encode(%d, abc, %d) = %x, %d, want %s", c.h, c.size, b, code, c.want)
		}
	}
}

func TestKeyEdges(t *testing.T) {
	n := ones(256)
	for _, c := range []struct {
		digits int
		want   api.Errno
	}{{2047, api.ErrKey}, {2048, api.OK}, {2049, api.OK}, {3072, api.OK}, {4095, api.OK}, {4096, api.OK}, {4097, api.ErrKey}} {
		least, most := plus(power(c.digits-1), 1), plus(power(c.digits), -1)
		for _, x := range []*big.Int{least, most} {
			if got := rsa1.Key(x.Bytes(), usual); got != c.want {
				t.Errorf("9.1: Key of an n of %d digits says %d, want %d", c.digits, got, c.want)
			}
			for what, b := range map[string][]byte{"with a byte 0 at its beginning": append([]byte{0}, x.Bytes()...), "with two": append([]byte{0, 0}, x.Bytes()...), "even": plus(x, -1).Bytes(), "with an even byte behind": append(x.Bytes(), 0)} {
				if got := rsa1.Key(b, usual); got != api.ErrKey {
					t.Errorf("9.1: Key of an n of %d digits %s says %d", c.digits, what, got)
				}
			}
		}
	}
	for _, c := range []struct {
		e    string
		want api.Errno
	}{
		{"", api.ErrKey}, {"00", api.ErrKey}, {"01", api.ErrKey}, {"02", api.ErrKey}, {"03", api.OK}, {"04", api.ErrKey}, {"05", api.OK}, {"ff", api.OK}, {"01 00", api.ErrKey}, {"01 01", api.OK}, {"01 00 01", api.OK},
		{"7f ff ff ff", api.OK}, {"80 00 00 01", api.OK}, {"ff ff ff fe", api.ErrKey}, {"ff ff ff ff", api.OK}, {"01 00 00 00 00", api.ErrKey}, {"01 00 00 00 01", api.ErrKey}, {"01 00 00 00 03", api.ErrKey}, {"00 00 00 00 03", api.ErrKey}, {"00 03", api.ErrKey}, {"00 ff ff ff ff", api.ErrKey}, {"01 00 00 00 00 00 00 00 03", api.ErrKey},
	} {
		if got := rsa1.Key(n, unhex(c.e)); got != c.want {
			t.Errorf("9.1: Key with e %s says %d, want %d", c.e, got, c.want)
		}
		if got := rsa1.Key(ones(255), unhex(c.e)); got != api.ErrKey {
			t.Errorf("9.1: Key of an n too short with e %s says %d", c.e, got)
		}
	}
	for _, none := range [][]byte{nil, {}, {0}, {1}, make([]byte, 256)} {
		if got := rsa1.Key(none, usual); got != api.ErrKey {
			t.Errorf("9.1: Key of %.4x says %d", none, got)
		}
	}
	if got := rsa1.Key(usual, n); got != api.ErrKey {
		t.Errorf("9.1: Key with its parts changed for each other says %d", got)
	}
}

// Keys of every length, first byte and last byte, by the chapter's words.
func TestKeys(t *testing.T) {
	for _, size := range []int{1, 2, 255, 256, 257, 258, 300, 511, 512, 513, 514, 1024, 1 << 20} {
		for _, inner := range []byte{0, 0xff, 0x5a} {
			n := bytes.Repeat([]byte{inner}, size)
			for first := range 256 {
				for _, last := range []byte{0, 1, 2, 3, 0x7f, 0x80, 0xfe, 0xff} {
					n[size-1], n[0] = last, byte(first)
					if size < 1<<20 || first < 2 {
						holdKey(t, n, usual)
					}
				}
			}
		}
	}
	n := ones(256)
	for size := range 12 {
		for _, inner := range []byte{0, 0xff} {
			for _, first := range []byte{0, 1, 2, 3, 0x7f, 0x80, 0xff} {
				for last := range 256 {
					e := bytes.Repeat([]byte{inner}, size)
					if size > 0 {
						e[size-1], e[0] = byte(last), first
					}
					holdKey(t, n, e)
				}
			}
		}
	}
	for e := range int64(70000) {
		holdKey(t, n, big.NewInt(e).Bytes())
	}
	holdKey(t, n, ones(1<<20))
}

func TestEncodeSizes(t *testing.T) {
	for _, h := range append(slices.Clone(hashes), noHashes...) {
		for size := -3; size < 600; size++ {
			holdEncode(t, h, []byte("a message"), size)
		}
		for k := range 200 { // where a sum that is not careful wraps
			holdEncode(t, h, nil, math.MinInt+k)
			holdEncode(t, h, nil, math.MaxInt-k)
		}
		for _, size := range []int{1 << 9, 1 << 12, 1<<32 + 256, -1 << 32, 1<<32 - 256, 1 << 31, 1 << 62} {
			holdEncode(t, h, nil, size)
		}
	}
}

func TestEncodeMessages(t *testing.T) {
	r := rand.New(rand.NewSource(1))
	for _, h := range hashes {
		for n := range 300 {
			holdEncode(t, h, drawnBytes(r, n), 94+r.Intn(419))
		}
		for _, message := range [][]byte{nil, {}, {0}, make([]byte, 1<<20)} {
			for _, size := range []int{62, 78, 94, 256, 512} {
				holdEncode(t, h, message, size)
			}
		}
	}
}

// Which error comes first where there are two or three.
func TestOrder(t *testing.T) {
	message := []byte("a message")
	for _, h := range append(slices.Clone(hashes), noHashes...) {
		n, sig := signed(t, max(1, min(h, 3)), message, 2048)
		for _, key := range [][2][]byte{{n, three}, {n, {2}}, {n, nil}, {nil, three}, {n[1:], three}, {append([]byte{0}, n...), three}, {nil, nil}} {
			for _, s := range [][]byte{sig, nil, sig[1:], n, ones(256), make([]byte, 256), append([]byte{0}, sig...)} {
				want := api.OK
				switch {
				case h < 1 || h > 3:
					want = api.ErrAlg
				case !bytes.Equal(key[0], n) || !bytes.Equal(key[1], three):
					want = api.ErrKey
				case !bytes.Equal(s, sig):
					want = api.ErrSignature
				}
				mustVerify(t, "9.3", want, h, key[0], key[1], message, s)
			}
		}
	}
}

func TestSigEdges(t *testing.T) {
	message := []byte("pay")
	for _, h := range hashes {
		for _, digits := range []int{2048, 2049, 2056, 4095, 4096} {
			n, sig := signed(t, h, message, digits)
			size := len(n)
			mustVerify(t, "9.3", api.OK, h, n, three, message, sig)
			x, s := number(n), number(sig)
			most := plus(power(8*size), -1)
			for what, b := range map[string][]byte{
				"a byte less at the beginning":    sig[1:],
				"a byte less at the end":          sig[:size-1],
				"a byte 0 more at the beginning":  append([]byte{0}, sig...),
				"a byte more at the end":          append(slices.Clone(sig), 0),
				"its least bytes":                 s.Bytes(),
				"twice":                           slices.Concat(sig, sig),
				"none":                            nil,
				"no byte":                         {},
				"0":                               make([]byte, size),
				"1":                               sized(big.NewInt(1), size),
				"one less":                        sized(plus(s, -1), size),
				"one more":                        sized(plus(s, 1), size),
				"n - s":                           sized(new(big.Int).Sub(x, s), size),
				"n - 1":                           sized(plus(x, -1), size),
				"n":                               n,
				"n, cut":                          n[1:],
				"the greatest":                    sized(most, size),
				"the encoding":                    filled([]byte{0, 1}, append([]byte{0}, digestInfo(h, message)...), size),
				"s behind its least bytes":        append(s.Bytes(), make([]byte, size-len(s.Bytes()))...),
				"its bytes, the lowest one first": backwards(sig),
			} {
				if got := rsa1.Verify(h, n, three, message, b); got != api.ErrSignature {
					t.Errorf("9.3: hash %d, %d digits: a sig that is %s: %d", h, digits, what, got)
				}
				holdVerify(t, "9.3", h, n, three, message, b)
			}
			// Whose power is the right one too, but that are not below n.
			for k := int64(1); k < 9; k++ {
				if above := new(big.Int).Add(s, new(big.Int).Mul(x, big.NewInt(k))); above.Cmp(most) <= 0 {
					mustVerify(t, "9.3", api.ErrSignature, h, n, three, message, sized(above, size))
				}
			}
		}
	}
}

func backwards(b []byte) []byte {
	b = slices.Clone(b)
	slices.Reverse(b)
	return b
}

// Signatures whose number begins as n does: with n = M + s^3 the third power of n - s is M, less a multiple of n.
func TestJustBelow(t *testing.T) {
	r := rand.New(rand.NewSource(2))
	message := []byte("near")
	for _, h := range hashes {
		for _, digits := range []int{2048, 2050, 3000, 4096} {
			size := (digits + 7) / 8
			encoding, _ := wantEncode(h, message, size)
			s := root(new(big.Int).Sub(plus(power(digits), -1), number(encoding)))
			if s.Bit(0) == uint(encoding[size-1]&1) { // n would be even
				s = plus(s, -1)
			}
			n := new(big.Int).Add(number(encoding), cubed(s))
			if n.BitLen() != digits || n.Bit(0) == 0 {
				t.Fatalf("no key of %d digits", digits)
			}
			near := sized(new(big.Int).Sub(n, s), size)
			if !bytes.HasPrefix(near, n.Bytes()[:size/2]) {
				t.Fatalf("%x is not near %x", near, n)
			}
			mustVerify(t, "9.4", api.OK, h, n.Bytes(), three, message, near)
			for range 5 {
				other := new(big.Int).Sub(n, plus(new(big.Int).Rand(r, s), 1))
				holdVerify(t, "9.4", h, n.Bytes(), three, message, sized(other, size))
			}
		}
	}
}

// 9.5, at numbers s of every size: n = s^3 - M.
func TestComplete(t *testing.T) {
	r := rand.New(rand.NewSource(3))
	taken := 0
	for round := range 600 {
		h := hashes[round%3]
		message := drawnBytes(r, r.Intn(80))
		size := 256 + r.Intn(257)
		encoding, _ := wantEncode(h, message, size)
		digits := 8*size - r.Intn(8)
		low, high := root(power(digits-1)), root(power(digits))
		s := new(big.Int).Add(low, new(big.Int).Rand(r, plus(new(big.Int).Sub(high, low), 1)))
		n := new(big.Int).Sub(cubed(s), number(encoding))
		if n.Sign() <= 0 || n.Bit(0) == 0 || len(n.Bytes()) != size || n.BitLen() < 2048 || n.BitLen() > 4096 || n.Cmp(s) <= 0 || n.Cmp(number(encoding)) <= 0 {
			continue
		}
		taken++
		mustVerify(t, "9.5", api.OK, h, n.Bytes(), three, message, sized(s, size))
		if made, code := rsa1.Encode(h, message, size); code != api.OK || !bytes.Equal(made, encoding) {
			t.Fatalf("9.2: Encode(%d, %x, %d) = %x, %d", h, message, size, made, code)
		}
	}
	if taken < 200 {
		t.Errorf("only %d keys drawn", taken)
	}
	// Every number of digits that a key may have.
	for digits := 2048; digits <= 4096; digits++ {
		h := hashes[digits%3]
		n, sig := signed(t, h, []byte("all"), digits)
		mustVerify(t, "9.5", api.OK, h, n, three, []byte("all"), sig)
		mustVerify(t, "9.6", api.ErrSignature, h, n, three, []byte("al"), sig)
	}
}

// 9.4, at keys whose owners can sign, with small and great e.
func TestEquation(t *testing.T) {
	r := rand.New(rand.NewSource(4))
	for _, c := range []struct {
		digits int
		e      int64
	}{{2048, 3}, {2048, 65537}, {2049, 5}, {2055, 17}, {2056, 1<<32 - 1}, {2560, 1<<31 + 11}, {3072, 65537}, {3077, 257}, {4095, 7}, {4096, 65537}, {4096, 1<<32 - 1}} {
		k := drawnSigner(r, c.digits, c.e)
		n, e := k.parts()
		for _, h := range hashes {
			message := drawnBytes(r, 1+r.Intn(200))
			encoding, _ := wantEncode(h, message, len(n))
			sig := k.sign(encoding)
			mustVerify(t, "9.4", api.OK, h, n, e, message, sig)
			for range 3 {
				mustVerify(t, "9.4", api.ErrSignature, h, n, e, message, changed(sig, r.Intn(len(sig)), 1<<r.Intn(8)))
				mustVerify(t, "9.6", api.ErrSignature, h, n, e, changed(message, r.Intn(len(message)), 1<<r.Intn(8)), sig)
				holdVerify(t, "9.4", h, changed(n, 1+r.Intn(len(n)-2), 1<<r.Intn(8)), e, message, sig)
			}
			for _, other := range []int64{3, 5, 65537, c.e + 2, c.e - 2, 1<<32 - 1} {
				holdVerify(t, "9.4", h, n, big.NewInt(other).Bytes(), message, sig)
			}
			for _, other := range hashes {
				holdVerify(t, "9.4", other, n, e, message, sig)
			}
		}
	}
}

// e is reckoned whole: each of its bits shows.
func TestEachBitOfE(t *testing.T) {
	r := rand.New(rand.NewSource(5))
	k := drawnSigner(r, 2048, 1<<32-1)
	n, e := k.parts()
	encoding, _ := wantEncode(api.SHA256, []byte("e"), len(n))
	sig := k.sign(encoding)
	mustVerify(t, "9.4", api.OK, api.SHA256, n, e, []byte("e"), sig)
	for bit := 1; bit < 32; bit++ {
		mustVerify(t, "9.4", api.ErrSignature, api.SHA256, n, big.NewInt(1<<32-1-1<<bit).Bytes(), []byte("e"), sig)
	}
}

// 9.6: a sig that is OK for one message is OK for no message of another sum.
func TestOneSum(t *testing.T) {
	message := []byte("one message, and one alone")
	for _, h := range hashes {
		n, sig := signed(t, h, message, 2048)
		mustVerify(t, "9.6", api.OK, h, n, three, slices.Clone(message), sig)
		others := [][]byte{nil, {0}, message[1:], message[:len(message)-1], append(slices.Clone(message), 0), append([]byte{0}, message...), slices.Concat(message, message), digestInfo(h, message), sig, n}
		for i := range message {
			for bit := range 8 {
				others = append(others, changed(message, i, 1<<bit))
			}
		}
		for _, other := range others {
			mustVerify(t, "9.6", api.ErrSignature, h, n, three, other, sig)
		}
		for _, other := range hashes {
			if other != h {
				mustVerify(t, "9.3", api.ErrSignature, other, n, three, message, sig)
			}
		}
	}
}

// P1: whatever is handed in.
func TestWild(t *testing.T) {
	r := rand.New(rand.NewSource(6))
	pieces := [][]byte{nil, {}, {0}, {1}, {3}, usual, ones(4), ones(5), make([]byte, 256), ones(255), ones(256), ones(257), ones(512), ones(513), ones(1 << 16), make([]byte, 1<<16), drawnBytes(r, 256), append(drawnBytes(r, 255), 1)}
	all := append(slices.Clone(hashes), noHashes...)
	for round := range 20000 {
		h := all[r.Intn(len(all))]
		draw := func() []byte { return pieces[r.Intn(len(pieces))] }
		n, e, message, sig := draw(), draw(), draw(), draw()
		if round%2 == 0 {
			e = three
		}
		holdKey(t, n, e)
		holdVerify(t, "9.3", h, n, e, message, sig)
		holdEncode(t, h, message, len(sig))
	}
}

func FuzzCalls(f *testing.F) {
	for _, digits := range []int{2048, 2049, 4096} {
		encoding, _ := wantEncode(api.SHA256, []byte("fuzz"), (digits+7)/8)
		s := plus(root(power(digits)), -2)
		for _, by := range []int64{0, 1} {
			x := plus(s, by)
			n := new(big.Int).Sub(cubed(x), number(encoding))
			f.Add(1, n.Bytes(), []byte{3}, []byte("fuzz"), sized(x, len(encoding)), 256, 0)
		}
	}
	f.Add(2, ones(256), []byte{1, 0, 1}, []byte("fuzz"), ones(256), 78, 1)
	f.Fuzz(func(t *testing.T, hash int, n, e, message, sig []byte, size, bit int) {
		h := api.Hash(hash)
		holdKey(t, n, e)
		holdEncode(t, h, message, size)
		if len(n) > 600 || len(sig) > 600 {
			return
		}
		holdVerify(t, "9.3", h, n, e, message, sig)
		if len(sig) > 0 {
			holdVerify(t, "9.3", h, n, e, message, changed(sig, int(uint(bit)/8%uint(len(sig))), 1<<(uint(bit)%8)))
		}
		if encoding, code := rsa1.Encode(h, message, 256+int(uint(size)%257)); code == api.OK {
			if bit%3 == 0 {
				encoding = changed(encoding, 1+int(uint(bit)/8%uint(len(encoding)-1)), 1<<(uint(bit)%8))
			}
			n, sig := keyFor(t, encoding, 8*len(encoding))
			holdVerify(t, "9.4", h, n, three, message, sig)
		}
	})
}
