package pss_test

import (
	"math/big"
	"slices"
	"strconv"
	"testing"

	"signet/api"
)

// someBits: for each hash the least that there are, with all numbers beside a multiple of 8, and those of keys.
func someBits(h api.Hash) []int {
	least := 8*(2*sumLen(h)+1) + 1
	var out []int
	for bits := least; bits < least+18; bits++ {
		out = append(out, bits)
	}
	return append(out, 2047, 2048, 2049)
}

// An encoding, and what differs from it in one bit: each bit of each byte, those above the bits that count too.
func TestOneBitElse(t *testing.T) {
	for _, h := range hashes {
		digest := sum(h, []byte("pay 10"))
		for _, bits := range someBits(h) {
			em := encoded(t, h, []byte("pay 10"), saltFor(h, bits), bits)
			mustHold(t, "the encoding", true, h, digest, em, bits)
			for i := range em {
				for bit := range 8 {
					mustHold(t, "one bit else", false, h, digest, changed(em, i, 1<<bit), bits)
				}
			}
			for i := range digest {
				mustHold(t, "another digest", false, h, changed(digest, i, 1<<(i%8)), em, bits)
			}
			for top := range byte(255) { // any of the highest bits
				mask := (top + 1) &^ (0xff >> (8*len(em) - bits))
				mustHold(t, "highest bits set", mask == 0, h, digest, changed(em, 0, mask), bits)
			}
			for mask := 1; mask < 256; mask++ {
				mustHold(t, "another last byte", false, h, digest, changed(em, len(em)-1, byte(mask)), bits)
			}
		}
	}
}

// Encodings of another length, or for other bits.
func TestOtherLengths(t *testing.T) {
	for _, h := range hashes {
		digest := sum(h, []byte("pay 10"))
		for _, bits := range someBits(h) {
			em := encoded(t, h, []byte("pay 10"), saltFor(h, bits), bits)
			size := len(em)
			for what, other := range map[string][]byte{
				"no em":                    nil,
				"one byte less ahead":      em[1:],
				"one byte less behind":     em[:size-1],
				"two bytes less":           em[:size-2],
				"a byte 0 more ahead":      append([]byte{0}, em...),
				"a byte 1 more ahead":      append([]byte{1}, em...),
				"a byte more behind":       append(slices.Clone(em), 0),
				"another bc behind":        append(slices.Clone(em), 0xbc),
				"the last byte alone":      em[size-1:],
				"the sum and what follows": em[size-sumLen(h)-1:],
				"twice":                    slices.Concat(em, em),
			} {
				mustHold(t, what, false, h, digest, other, bits)
			}
			same := 0
			for by := -20; by <= 20; by++ {
				holdHolds(t, "other bits", h, digest, em, bits+by)
				if bytesFor(bits+by) == size && wantHolds(h, digest, em, bits+by) {
					same++
				}
			}
			if same == 0 {
				t.Fatalf("%d bits: never held", bits)
			}
			for _, none := range []int{-1, 0, bits - 65536, bits + 65536, -bits, 8*size + 1, 8*size - 8, 1 << 32, 1<<32 + bits, 1<<63 - 1, -1 << 63} {
				mustHold(t, "bits that are others", false, h, digest, em, none)
			}
			for _, none := range noHashes {
				mustHold(t, "no hash", false, none, digest, em, bits)
			}
			for _, other := range hashes {
				mustHold(t, "another hash", other == h, other, digest, em, bits)
				mustHold(t, "another hash and its digest", other == h, other, sum(other, []byte("pay 10")), em, bits)
			}
		}
		for _, bits := range []int{65529, 65535, 65536} {
			em := encoded(t, h, nil, saltFor(h, 0), bits)
			mustHold(t, "the most bits", true, h, sum(h), em, bits)
			mustHold(t, "the most bits, one less behind", false, h, sum(h), em[:len(em)-1], bits)
			mustHold(t, "a bit more than there may be", false, h, sum(h), em, 65537)
			mustHold(t, "a byte more than there may be", false, h, sum(h), append([]byte{0}, em...), 65537)
		}
	}
}

// Just too few bytes for a salt of the hash's length, though a shorter one has an encoding there.
func TestNoRoomForSalt(t *testing.T) {
	for _, h := range hashes {
		hl := sumLen(h)
		digest := sum(h, []byte("pay 10"))
		for bits := 8*(2*hl) + 1; bits <= 8*(2*hl+1)+16; bits++ {
			for n := max(0, bytesFor(bits)-hl-2-3); n <= bytesFor(bits)-hl-2; n++ {
				em := encoded(t, h, []byte("pay 10"), saltsOf(h, n), bits)
				mustHold(t, "a short room", n == hl, h, digest, em, bits)
			}
		}
		for size := range 2*hl + 4 {
			for _, em := range [][]byte{make([]byte, size), ones(size), slices.Repeat([]byte{0xbc}, size)} {
				for bits := 8*size - 9; bits <= 8*size+1; bits++ {
					mustHold(t, "few bytes", false, h, digest, em, bits)
				}
			}
		}
	}
}

// forge: an encoding around a block that need not be one; its last hl bytes are the salt.
func forge(h api.Hash, message, block []byte, bits int) []byte {
	salt := block[len(block)-sumLen(h):]
	return masked(h, block, sum(h, make([]byte, 8), sum(h, message), salt), bits, 0xbc)
}

// Any other byte ahead of the salt, and any byte among the noughts; but the highest bits of the first byte tell nothing: they are cut.
func TestForgedBlocks(t *testing.T) {
	message := []byte("pay 10")
	for _, h := range hashes {
		hl := sumLen(h)
		digest := sum(h, message)
		for _, bits := range someBits(h) {
			size := bytesFor(bits) - hl - 1
			block := blockOf(saltFor(h, bits), size)
			mustHold(t, "the encoding", true, h, digest, forge(h, message, block, bits), bits)
			cut := byte(0xff) >> (8*bytesFor(bits) - bits)
			for i := range size - hl {
				for mask := 1; mask < 256; mask++ {
					if bits > 2000 && i > 2 && i < size-hl-3 && mask&(mask-1) != 0 {
						continue
					}
					nothing := i == 0 && byte(mask)&cut == 0
					mustHold(t, "another byte ahead of the salt", nothing, h, digest, forge(h, message, changed(block, i, byte(mask)), bits), bits)
				}
			}
		}
	}
}

// What loose readers take.
func forgeries(h api.Hash, message []byte, bits int) map[string][]byte {
	hl := sumLen(h)
	digest, salt := sum(h, message), saltFor(h, bits)
	size := bytesFor(bits) - hl - 1
	block := blockOf(salt, size)
	inner := sum(h, make([]byte, 8), digest, salt)
	with := func(inner []byte) []byte { return masked(h, block, inner, bits, 0xbc) }
	of := func(salt []byte) []byte {
		em, _ := wantEncode(h, digest, salt, bits)
		return em
	}
	mask, _ := wantMask(h, inner, size)
	out := map[string][]byte{
		"no salt":                           of(nil),
		"a salt of one byte less":           of(salt[1:]),
		"a salt of one byte more":           of(append([]byte{7}, salt...)),
		"a salt of 20 bytes":                of(salt[:20]),
		"the longest salt":                  of(saltsOf(h, size-1)),
		"a salt that begins with 1":         of(append([]byte{1}, salt...)),
		"the last byte cc":                  masked(h, block, inner, bits, 0xcc),
		"the last byte 0":                   masked(h, block, inner, bits, 0),
		"no noughts in the sum":             with(sum(h, digest, salt)),
		"seven noughts in the sum":          with(sum(h, make([]byte, 7), digest, salt)),
		"nine noughts in the sum":           with(sum(h, make([]byte, 9), digest, salt)),
		"the sum of digest alone":           with(sum(h, make([]byte, 8), digest)),
		"salt ahead of the digest":          with(sum(h, make([]byte, 8), salt, digest)),
		"the message for its digest":        with(sum(h, make([]byte, 8), message, salt)),
		"the digest for the sum":            with(digest),
		"the digest's digest":               with(sum(h, make([]byte, 8), sum(h, digest), salt)),
		"another salt in the sum":           with(sum(h, make([]byte, 8), digest, saltFor(h, bits+1))),
		"a block that is not masked":        slices.Concat(block, inner, []byte{0xbc}),
		"a mask alone":                      slices.Concat([]byte{mask[0] >> 7}, mask[1:], inner, []byte{0xbc}),
		"a counter of the lowest first":     little(h, block, inner, bits),
		"a mask of counters from 1":         later(h, block, inner, bits),
		"nothing":                           make([]byte, size+hl+1),
		"nothing but the last byte":         append(make([]byte, size+hl), 0xbc),
		"a filling of ff for noughts":       masked(h, slices.Concat(ones(size-1-hl), []byte{1}, salt), inner, bits, 0xbc),
		"the byte 1 ahead of the noughts":   masked(h, slices.Concat([]byte{1}, make([]byte, size-1-hl), salt), inner, bits, 0xbc),
		"the byte 1 at the beginning too":   masked(h, changed(block, 1, 1), inner, bits, 0xbc),
		"no byte 1":                         masked(h, changed(block, size-1-hl, 1), inner, bits, 0xbc),
		"the salt ahead, the noughts after": masked(h, slices.Concat(salt, []byte{1}, make([]byte, size-1-hl)), inner, bits, 0xbc),
	}
	for _, other := range hashes {
		if other != h {
			name := strconv.Itoa(int(other))
			out["a mask by the hash "+name] = slices.Concat(masked(other, block, inner, bits, 0xbc)[:size], inner, []byte{0xbc})
			alien, _ := wantEncode(other, sum(other, message), saltFor(other, bits), bits)
			out["an encoding by the hash "+name] = alien
		}
	}
	return out
}

// little: the counter's bytes the other way round. The first sum is the same: it shows from the second one on.
func little(h api.Hash, block, inner []byte, bits int) []byte {
	var mask []byte
	for i := byte(0); len(mask) < len(block); i++ {
		mask = append(mask, sum(h, inner, []byte{i, 0, 0, 0})...)
	}
	return mixed(block, mask, inner, bits)
}

func later(h api.Hash, block, inner []byte, bits int) []byte {
	var mask []byte
	for i := byte(1); len(mask) < len(block); i++ {
		mask = append(mask, sum(h, inner, []byte{0, 0, 0, i})...)
	}
	return mixed(block, mask, inner, bits)
}

func mixed(block, mask, inner []byte, bits int) []byte {
	x := new(big.Int).Xor(number(block), number(mask[:len(block)]))
	x.And(x, plus(power(bits-8*(len(inner)+1)), -1))
	return slices.Concat(sized(x, len(block)), inner, []byte{0xbc})
}

func TestForged(t *testing.T) {
	message := []byte("pay 10")
	for _, h := range hashes {
		for _, bits := range []int{2047, 2048, 2050, 2054, 2055, 3071, 4095} {
			em := encoded(t, h, message, saltFor(h, bits), bits)
			mustHold(t, "the encoding", true, h, sum(h, message), em, bits)
			n, sig := keyFor(t, number(em), bits+1)
			mustVerify(t, "10.4: the encoding", api.OK, h, n, three, message, sig)
			for what, forged := range forgeries(h, message, bits) {
				mustHold(t, what, false, h, sum(h, message), forged, bits)
				n, sig := keyFor(t, number(forged), bits+1)
				mustVerify(t, "10.4: "+what, api.ErrSignature, h, n, three, message, sig)
			}
		}
	}
}
