package pss_test

import (
	"bytes"
	"math"
	"math/big"
	"math/rand"
	"slices"
	"testing"

	"signet/api"
	"signet/pss"
)

// The rows of the chapter's table.
func TestExamples(t *testing.T) {
	for _, c := range []struct {
		h    api.Hash
		seed string
		n    int
		want string
		code api.Errno
	}{
		{api.SHA256, "foo", 3, "3b da ba", api.OK},
		{api.SHA256, "bar", 50, "38 25 76 a7 84 10 21 cc 28 fc 4c 09 48 75 3f b8 31 20 90 ce a9 42 ea 4c 4e 73 5d 10 dc 72 4b 15 5f 9f 60 69 f2 89 d6 1d ac a0 cb 81 45 02 ef 04 ea e1", api.OK},
		{api.SHA256, "foo", 0, "", api.OK},
		{api.SHA256, "foo", -1, "", api.ErrLarge},
		{api.SHA256, "foo", 65537, "", api.ErrLarge},
		{4, "foo", 3, "", api.ErrAlg},
	} {
		if b, code := pss.Mask(c.h, []byte(c.seed), c.n); code != c.code || !bytes.Equal(b, unhex(c.want)) {
			t.Errorf("10.1: Mask(%d, %s, %d) = %x, %d, want %s, %d", c.h, c.seed, c.n, b, code, c.want, c.code)
		}
	}
	digest := unhex("000102030405060708090a0b0c0d0e0f101112131415161718191a1b1c1d1e1f")
	for _, c := range []struct {
		salt, bits, size int
		code             api.Errno
	}{{0, 271, 34, api.OK}, {0, 264, 0, api.ErrKey}, {32, 521, 66, api.OK}, {32, 520, 0, api.ErrKey}} {
		em, code := pss.Encode(api.SHA256, digest, make([]byte, c.salt), c.bits)
		if code != c.code || len(em) != c.size {
			t.Errorf("10.2: Encode(digest, salt of %d bytes, %d) = %x, %d, want %d bytes, %d", c.salt, c.bits, em, code, c.size, c.code)
		}
	}
	for i := range 64 { // some of them have, ahead of the cut, the highest bit
		em, code := pss.Encode(api.SHA256, changed(digest, i%32, byte(1+i)), nil, 271)
		if code != api.OK || len(em) != 34 || em[0] >= 0x80 {
			t.Errorf("10.2: Encode for 271 bits = %x, %d", em, code)
		}
	}
	n, sig := signed(t, api.SHA256, []byte("2049"), 2049)
	em, code := pss.Encode(api.SHA256, sum(api.SHA256, []byte("2049")), saltFor(api.SHA256, 2049), 2048)
	if len(n) != 257 || len(sig) != 257 || len(em) != 256 || code != api.OK {
		t.Errorf("10.2: of 2049 bits n has %d bytes, the encoding %d", len(n), len(em))
	}
	mustVerify(t, "10.4", api.OK, api.SHA256, n, three, []byte("2049"), sig)
}

// Encodings of the message abc, written out: they were reckoned by another program (CPython's hashlib), and hang on nothing here.
func TestEncodeWritten(t *testing.T) {
	for _, c := range []struct {
		h    api.Hash
		salt string
		bits int
		want string
	}{
		{api.SHA256, "", 271, "22470dfeeaa89d8cd0455b0c96a78f6140ccb37ae71f09b5bf67ac2f7424e55b31bc"},
		{api.SHA256, "000102030405060708090a0b0c0d0e0f101112131415161718191a1b1c1d1e1f", 521, "0161d083c900bd225e2edd550638975f9ff91dab46f2ca36166de000a08a708374f3fafa6580f36ad92f340631f3a4d18cc67aa34ad64f706021d6f1634d5b020ebc"},
		{api.SHA256, "000102030405060708090a0b0c0d0e0f101112131415161718191a1b1c1d1e1f", 536, "5460d180c807bc215f21dc56073f965c9ee61ca847f5cb351762e103a18d71807552f3fafa6580f36ad92f340631f3a4d18cc67aa34ad64f706021d6f1634d5b020ebc"},
		{api.SHA384, "ffffffffffffffffffffffffffffffffffffffffffffffffffffffffffffffffffffffffffffffffffffffffffffffff", 799, "59622a492e2edbb7923d8e304daa958120e3b57c5c10d2fe4fd1b58a02a4a8dbfb763a754c2a8f17f58ea60a1484f8fd1172fc005888f9ef7e154c607c6dcd96d63673b4a9b00b9022eb8b658d19389c7cb0ae872a93ccdf072f8d4660a11defe14561bc"},
		{api.SHA512, "000102030405060708090a0b0c0d0e0f101112131415161718191a1b1c1d1e1f202122232425262728292a2b2c2d2e2f303132333435363738393a3b3c3d3e3f", 1048, "e2d9cce8de61f9d2f9eace8be66c349beb4b2dfea0858be8b22c8fb6226eaae9fd56eece078729f410f3ef332ea087761eb2ef866db7ac2dcf5c890f80b343fd872b0c3c780980a3192fbe6e8b29b7e02ec9a30c82e23e0dbb31c9f42fd6ed2332cf14cd5eb228386c4e009bb7688026611ddb171d20a91d5b474416492c83b01c00bc"},
	} {
		digest := sum(c.h, []byte("abc"))
		em, code := pss.Encode(c.h, digest, unhex(c.salt), c.bits)
		if code != api.OK || !bytes.Equal(em, unhex(c.want)) {
			t.Errorf("10.2: Encode(%d, abc's sum, %s, %d) = %x, %d, want %s", c.h, c.salt, c.bits, em, code, c.want)
		}
		mustHold(t, "written out", len(unhex(c.salt)) == sumLen(c.h), c.h, digest, unhex(c.want), c.bits)
	}
}

func TestMaskEdges(t *testing.T) {
	seeds := [][]byte{nil, {}, {0}, []byte("seed"), ones(55), ones(60), ones(64), ones(111), ones(128), ones(1000), make([]byte, 1<<20)}
	for _, h := range hashes {
		hl := sumLen(h)
		for _, seed := range seeds {
			for _, n := range []int{-65536, -1, 0, 1, 2, hl - 1, hl, hl + 1, 2*hl - 1, 2 * hl, 2*hl + 1, 3 * hl, 500} {
				if len(seed) < 1<<20 || n == hl+1 {
					holdMask(t, h, seed, n)
				}
			}
		}
		for _, n := range []int{255 * hl, 255*hl + 1, 256 * hl, 256*hl + 1, 257 * hl, 300*hl + 7, 511 * hl, 512*hl + 1, 65535, 65536, 65537, 65538, 1 << 20, 1 << 31, 1 << 32, 1<<32 + 5, math.MaxInt, math.MaxInt - hl, math.MinInt, math.MinInt + 1} {
			holdMask(t, h, nil, n)
			holdMask(t, h, []byte("seed"), n)
		}
		for n := range 600 {
			holdMask(t, h, []byte{byte(n)}, n)
		}
		for n := range 300 {
			holdMask(t, h, ones(n), hl+1)
		}
		// A shorter mask is the beginning of a longer one, and no two sums of a mask are one.
		long, _ := pss.Mask(h, []byte("seed"), 65536)
		if len(long) != 65536 {
			t.Fatalf("10.1: a mask of 65536 bytes has %d", len(long))
		}
		seen := map[string]bool{}
		for i := 0; i+hl <= len(long); i += hl {
			if short, _ := pss.Mask(h, []byte("seed"), i+1); !bytes.Equal(short, long[:i+1]) {
				t.Fatalf("10.1: hash %d: a mask of %d bytes does not begin a longer one", h, i+1)
			}
			seen[string(long[i:i+hl])] = true
		}
		if len(seen) != 65536/hl {
			t.Errorf("10.1: hash %d: sums of a mask come twice", h)
		}
	}
	for _, h := range noHashes {
		for _, n := range []int{-1, 0, 1, 32, 65536, 65537, math.MaxInt, math.MinInt} {
			holdMask(t, h, []byte("seed"), n)
			if b, code := pss.Mask(h, nil, n); code != api.ErrAlg || b != nil {
				t.Errorf("10.1: Mask(%d, nil, %d) = %x, %d", h, n, b, code)
			}
		}
	}
}

// Every number of bits about the least ones, and about the greatest.
func TestEncodeBits(t *testing.T) {
	for _, h := range hashes {
		hl := sumLen(h)
		digest := sum(h, []byte("a message"))
		for _, salt := range [][]byte{nil, {}, {0}, {1}, ones(hl - 1), ones(hl), ones(hl + 1), make([]byte, hl), saltFor(h, 0), ones(300)} {
			least := 8*(hl+1+len(salt)) + 1
			for bits := least - 20; bits < least+40; bits++ {
				holdEncode(t, h, digest, salt, bits)
				em, code := pss.Encode(h, digest, salt, bits)
				if (code == api.OK) != (bits >= least) {
					t.Fatalf("10.2: Encode with a salt of %d bytes for %d bits says %d", len(salt), bits, code)
				}
				if code == api.OK && (len(em) != bytesFor(bits) || number(em).BitLen() > bits || em[len(em)-1] != 0xbc) {
					t.Fatalf("10.2: Encode for %d bits = %x", bits, em)
				}
			}
			for _, bits := range []int{0, 1, 7, 8, 9, 2047, 2048, 2049, 4095, 4096, 16384, 65520, 65527, 65528, 65529, 65535, 65536, 65537, 65544, 1 << 20, 1<<32 + 2048, -1, -7, -8, -2048, math.MaxInt, math.MaxInt - 6, math.MaxInt - 7, math.MinInt, math.MinInt + 1} {
				holdEncode(t, h, digest, salt, bits)
			}
		}
		for bits := 2040; bits < 2070; bits++ {
			holdEncode(t, h, digest, saltFor(h, bits), bits)
		}
	}
}

// Salts of every length that fits, and those that don't.
func TestEncodeSalts(t *testing.T) {
	for _, h := range hashes {
		hl := sumLen(h)
		digest := sum(h, []byte("a message"))
		for _, bits := range []int{2041, 2047, 2048} {
			fits := 256 - hl - 2
			for n := range fits + 5 {
				salt := saltsOf(h, n)
				holdEncode(t, h, digest, salt, bits)
				em, code := pss.Encode(h, digest, salt, bits)
				if (code == api.OK) != (n <= fits) {
					t.Fatalf("10.2: a salt of %d bytes in %d bits: %d", n, bits, code)
				}
				if code == api.OK {
					mustHold(t, "a salt of any length", n == hl, h, digest, em, bits)
				}
			}
		}
		holdEncode(t, h, digest, ones(8192-hl-2), 65536)
		holdEncode(t, h, digest, ones(8192-hl-1), 65536)
		holdEncode(t, h, digest, ones(1<<20), 65536)
	}
}

// 10.5: no two salts have one encoding, so there is at most one for a signature.
func TestOneSalt(t *testing.T) {
	for _, h := range hashes {
		digest, salt := sum(h, []byte("a message")), saltFor(h, 0)
		for _, bits := range []int{8*(2*len(salt)+1) + 1, 2047, 2048} {
			seen := map[string]bool{}
			for i := range 8*len(salt) + 1 {
				other := salt
				if i > 0 {
					other = changed(salt, (i-1)/8, 1<<((i-1)%8))
				}
				em, code := pss.Encode(h, digest, other, bits)
				if code != api.OK || seen[string(em)] {
					t.Fatalf("10.5: Encode(%d, .., %x, %d) = %x, %d, once more", h, other, bits, em, code)
				}
				seen[string(em)] = true
				mustHold(t, "any salt", true, h, digest, em, bits)
			}
		}
	}
}

// saltsOf: n bytes that look drawn.
func saltsOf(h api.Hash, n int) []byte {
	b, _ := wantMask(h, []byte("salts"), n)
	return b
}

func TestEncodeDigests(t *testing.T) {
	for _, h := range hashes {
		hl := sumLen(h)
		for _, n := range []int{0, 1, hl - 1, hl, hl + 1, 2 * hl, 20, 32, 48, 64, 1 << 16} {
			for _, salt := range [][]byte{nil, ones(hl)} {
				for _, bits := range []int{-1, 0, 2047, 2048, 65536, 65537} {
					holdEncode(t, h, ones(n), salt, bits)
				}
			}
			em := encoded(t, h, nil, ones(hl), 2047)
			holdHolds(t, "a digest of another length", h, ones(n), em, 2047)
		}
		if em, code := pss.Encode(h, nil, nil, 2047); code != api.ErrKey || em != nil {
			t.Errorf("10.2: Encode of no digest = %x, %d", em, code)
		}
	}
}

// Which error comes first, where there are two.
func TestFirstRefusals(t *testing.T) {
	digest, salt := ones(32), ones(32)
	for _, h := range noHashes {
		for _, bits := range []int{-1, 0, 520, 2047, 65537} {
			for _, d := range [][]byte{nil, digest, ones(31)} {
				if em, code := pss.Encode(h, d, salt, bits); code != api.ErrAlg || em != nil {
					t.Errorf("10.2: Encode(%d, %d bytes, salt, %d) = %x, %d", h, len(d), bits, em, code)
				}
			}
		}
	}
	for _, bits := range []int{-1, 65537, math.MinInt, math.MaxInt} {
		for _, l := range [][2][]byte{{digest, salt}, {nil, salt}, {ones(33), salt}, {digest, ones(1 << 17)}} {
			if em, code := pss.Encode(api.SHA256, l[0], l[1], bits); code != api.ErrLarge || em != nil {
				t.Errorf("10.2: Encode(%d bytes, salt of %d, %d) = %x, %d", len(l[0]), len(l[1]), bits, em, code)
			}
		}
	}
	message := []byte("a message")
	n, sig := signed(t, api.SHA256, message, 2048)
	even := slices.Clone(n)
	even[len(even)-1] ^= 1
	for _, h := range noHashes {
		for _, s := range [][]byte{sig, n, sig[1:], nil} {
			for _, l := range [][2][]byte{{n, three}, {n, {2}}, {even, three}, {nil, nil}} {
				mustVerify(t, "10.4", api.ErrAlg, h, l[0], l[1], message, s)
			}
		}
	}
	for _, s := range [][]byte{sig, n, sig[1:], append([]byte{0}, sig...), nil} {
		for _, l := range [][2][]byte{{n, {2}}, {n, {1}}, {n, nil}, {n, {0, 3}}, {n, {1, 0, 0, 0, 1}}, {even, three}, {n[1:], three}, {append([]byte{0}, n...), three}, {nil, three}, {nil, nil}, {ones(513), three}} {
			mustVerify(t, "10.4", api.ErrKey, api.SHA256, l[0], l[1], message, s)
		}
	}
}

// Keys at the ends of what rsa1.Key takes.
func TestKeyEdges(t *testing.T) {
	message := []byte("a message")
	for digits := 2040; digits <= 2048; digits++ {
		n, sig := signed(t, api.SHA256, message, digits)
		want := api.ErrKey
		if digits == 2048 {
			want = api.OK
		}
		mustVerify(t, "10.4", want, api.SHA256, n, three, message, sig)
	}
	for _, digits := range []int{4095, 4096, 4097, 4104} {
		n, sig := signed(t, api.SHA512, message, digits)
		want := api.ErrKey
		if digits <= 4096 {
			want = api.OK
		}
		mustVerify(t, "10.4", want, api.SHA512, n, three, message, sig)
	}
}

// P1: whatever is handed in.
func TestWild(t *testing.T) {
	r := rand.New(rand.NewSource(6))
	pieces := [][]byte{nil, {}, {0}, {1}, {3}, usual, ones(4), ones(5), ones(32), ones(48), ones(64), ones(66), make([]byte, 256), ones(255), ones(256), ones(257), ones(512), ones(513), ones(1 << 16), make([]byte, 1<<16), drawnBytes(r, 256), append(drawnBytes(r, 255), 1)}
	numbers := []int{math.MinInt, math.MinInt + 1, math.MinInt + 7, -1 << 32, -65536, -9, -8, -7, -1, 0, 1, 7, 8, 9, 256, 521, 528, 777, 1033, 2040, 2047, 2048, 4096, 4104, 65535, 65536, 65537, 1 << 31, 1 << 32, 1<<32 + 2047, math.MaxInt - 7, math.MaxInt - 6, math.MaxInt - 1, math.MaxInt}
	all := append(slices.Clone(hashes), noHashes...)
	for round := range 10000 {
		h := all[r.Intn(len(all))]
		if round%2 == 0 {
			h = hashes[r.Intn(3)]
		}
		draw := func() []byte { return pieces[r.Intn(len(pieces))] }
		a, b, c, d, bits := draw(), draw(), draw(), draw(), numbers[r.Intn(len(numbers))]
		if len(a) <= 513 {
			holdMask(t, h, a, bits)
		}
		holdEncode(t, h, a, b, bits)
		holdHolds(t, "wild", h, a, b, bits)
		if hl := sumLen(h); hl > 0 {
			digest := sum(h, a)
			em, code := pss.Encode(h, digest, b, bits)
			holdHolds(t, "wild", h, digest, em, bits)
			if code == api.OK {
				mustHold(t, "wild", len(b) == hl, h, digest, em, bits)
			}
			holdHolds(t, "wild", h, digest, c, 8*len(c))
			holdHolds(t, "wild", h, digest, c, 8*len(c)-1)
		}
		if round%2 == 0 {
			b = three
		}
		holdVerify(t, "10.4", h, a, b, c, d)
	}
}

func FuzzCalls(f *testing.F) {
	for _, digits := range []int{2048, 2049, 2055, 4096} {
		em, _ := wantEncode(api.SHA256, sum(api.SHA256, []byte("fuzz")), saltFor(api.SHA256, 1), digits-1)
		s := plus(root(power(digits)), -2)
		for _, by := range []int64{0, 1} {
			x := plus(s, by)
			n := new(big.Int).Sub(cubed(x), number(em))
			f.Add(1, n.Bytes(), []byte{3}, []byte("fuzz"), sized(x, bytesFor(digits)), digits-1, 0)
		}
	}
	f.Add(2, ones(256), []byte{1, 0, 1}, []byte("fuzz"), ones(48), 777, 1)
	f.Fuzz(func(t *testing.T, hash int, n, e, message, sig []byte, bits, bit int) {
		h := api.Hash(hash)
		holdMask(t, h, message, bits)
		holdEncode(t, h, n, sig, bits)
		holdHolds(t, "fuzz", h, n, sig, bits)
		if len(n) <= 600 && len(sig) <= 600 {
			holdVerify(t, "10.4", h, n, e, message, sig)
			if len(sig) > 0 {
				holdVerify(t, "10.4", h, n, e, message, changed(sig, int(uint(bit)/8%uint(len(sig))), 1<<(uint(bit)%8)))
			}
		}
		digest := sum(h, message)
		holdEncode(t, h, digest, sig, bits)
		digits := 2048 + int(uint(bits)%2049)
		if em, code := pss.Encode(h, digest, saltFor(h, bit), digits-1); code == api.OK {
			if bit%3 == 0 {
				em = changed(em, int(uint(bit)/8%uint(len(em))), 1<<(uint(bit)%8))
			}
			holdHolds(t, "fuzz", h, digest, em, digits-1)
			n, sig := keyFor(t, number(em), digits)
			holdVerify(t, "10.5", h, n, three, message, sig)
		}
	})
}
