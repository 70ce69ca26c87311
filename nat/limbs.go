package nat

import "signet/api"

// proper: the number without noughts on top; it shares n's memory.
func proper(n api.Nat) api.Nat {
	for len(n) > 0 && n[len(n)-1] == 0 {
		n = n[:len(n)-1]
	}
	return n
}

// at: the limb at a place; 0 where there is none.
func at(n api.Nat, i int) uint32 {
	if i < 0 || i >= len(n) {
		return 0
	}
	return n[i]
}

// copied: the limbs of n, and noughts on top up to the size.
func copied(n api.Nat, size int) api.Nat {
	out := make(api.Nat, size)
	copy(out, n)
	return out
}

func leastBytes(n api.Nat) int { return (Bits(n) + 7) / 8 }

// written: the lowest bytes of n, the most significant first.
func written(n api.Nat, size int) []byte {
	b := make([]byte, size)
	for i := range b {
		place := size - 1 - i
		b[i] = byte(at(n, place/limbBytes) >> (place % limbBytes * 8))
	}
	return b
}

// raised: n 2^k, with a limb for what goes over the top, be it 0 or not: division counts on it.
func raised(n api.Nat, k int) api.Nat {
	below := k / limbBits
	out := make(api.Nat, below+len(n)+1)
	copy(out[below:], n)
	carry := uint64(0)
	for i, limb := range out {
		carry |= uint64(limb) << (k % limbBits)
		out[i] = uint32(carry)
		carry >>= limbBits
	}
	return out
}

// putTo adds b to sum, which has no fewer limbs; what goes over the top is lost.
func putTo(sum, b api.Nat) {
	carry := uint64(0)
	for i, limb := range sum {
		carry += uint64(limb) + uint64(at(b, i))
		sum[i] = uint32(carry)
		carry >>= limbBits
	}
}

// takeFrom takes digit times b from left, and tells whether that was more than left held: what is left is then too great by one above its top limb.
func takeFrom(left, b api.Nat, digit uint64) bool {
	carry := uint64(0)
	for i, limb := range left {
		carry += digit * uint64(at(b, i))
		rest := uint64(limb) - carry%base
		left[i] = uint32(rest)
		// Below nought the top bit is 1: one is borrowed from the next limb.
		carry = carry>>limbBits + rest>>63
	}
	return carry != 0
}
