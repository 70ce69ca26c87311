package nat

import (
	"math/bits"

	"signet/api"
)

// divide: quotient and rest by Knuth's algorithm D, of proper numbers, d not nought and not above a.
func divide(a, d api.Nat) (q, r api.Nat) {
	// With its top bit set the divisor's highest limb says so much that an estimate is at most two too great.
	shift := bits.LeadingZeros32(d[len(d)-1])
	left, divisor := raised(a, shift), proper(raised(d, shift))
	q = make(api.Nat, len(a)-len(d)+1)
	for i := range q {
		place := len(q) - 1 - i
		window := left[place : place+len(divisor)+1]
		digit := estimate(window, divisor)
		if takeFrom(window, divisor, digit) {
			digit--
			// What goes over the top makes up for what was taken too much.
			putTo(window, divisor)
		}
		q[place] = uint32(digit)
	}
	return proper(q), Shr(left[:len(divisor)], shift)
}

// estimate: the whole part of window / divisor, or one more, but below 2^32. The window has a limb more than the divisor, and is less than 2^32 times as much.
func estimate(window, divisor api.Nat) uint64 {
	n := len(divisor)
	top, next := uint64(divisor[n-1]), uint64(at(divisor, n-2))
	head := uint64(window[n])<<limbBits | uint64(window[n-1])
	digit, left := head/top, head%top
takeBack:
	for {
		switch {
		case left >= base: // above all that a digit takes off by the next limb
			break takeBack
		case digit < base && digit*next <= left<<limbBits|uint64(at(window, n-2)):
			break takeBack
		}
		digit--
		left += top
	}
	return digit
}
