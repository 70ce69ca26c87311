package decimal

import "math/bits"

const (
	signBit  = 1 << 31
	infinity = 0xff << 23

	fractionBits = 23 // of a float32
)

// 0.digits times ten to a point below leastPoint is less than half of the least float32, and to a point above greatestPoint more than the greatest, whatever the digits are.
const (
	leastPoint    = -45
	greatestPoint = 39
)

// fixed: a number as limbs, the lowest first, dotLimb of them behind the dot. A float32 that is no infinity, and the middle between two of them, fits: below 2^160, and whole times 2^-160.
type fixed [2 * dotLimb]uint32

const (
	dotLimb  = 5
	limbBits = 32
	// lowestBit: which bit of a fixed is worth what bit 0 of the least float32 is, 2^-149.
	lowestBit = dotLimb*limbBits - 149
)

func (f *fixed) whole() []uint32    { return f[dotLimb:] }
func (f *fixed) fraction() []uint32 { return f[:dotLimb] }

// timesTen makes the limbs ten times as much and adds a digit; what goes out at the top, is answered.
func timesTen(limbs []uint32, digit uint32) uint32 {
	carry := uint64(digit)
	for i := range limbs {
		carry += uint64(limbs[i]) * 10
		limbs[i] = uint32(carry)
		carry >>= limbBits
	}
	return uint32(carry)
}

// overTen puts a digit above the limbs and makes them a tenth of that; what is left over, is answered.
func overTen(limbs []uint32, digit uint32) uint32 {
	left := uint64(digit)
	for i := len(limbs) - 1; i >= 0; i-- {
		left = left<<limbBits | uint64(limbs[i])
		limbs[i] = uint32(left / 10)
		left %= 10
	}
	return uint32(left)
}

func isZero(limbs []uint32) bool {
	for _, limb := range limbs {
		if limb != 0 {
			return false
		}
	}
	return true
}

// lay: 0.digits times ten to the point, from leastPoint to greatestPoint. What a fixed is too coarse for is cut off, and the lowest bit set in its place: no middle has that bit, so that the number stays on its side of each of them.
func lay(digits string, point int) fixed {
	var f fixed
	digitAt := func(place int) uint32 {
		if place < 0 || place >= len(digits) {
			return 0
		}
		return uint32(digits[place] - '0')
	}
	for place := range point {
		timesTen(f.whole(), digitAt(place))
	}
	lost := uint32(0)
	for place := len(digits) - 1; place >= point; place-- {
		lost |= overTen(f.fraction(), digitAt(place))
	}
	if lost != 0 {
		f[0] |= 1
	}
	return f
}

// round: the bits of the nearest float32, the even one of two; infinity for all that is beyond.
func (f *fixed) round() uint32 {
	top := len(f) - 1
	for top > 1 && f[top] == 0 {
		top--
	}
	// The two top limbs have more bits than a float32, and one is enough to stand for all below.
	window, below := uint64(f[top])<<limbBits|uint64(f[top-1]), (top-1)*limbBits
	if !isZero(f[:top-1]) {
		window |= 1
	}
	shift := max(bits.Len64(window)-fractionBits-1, lowestBit-below)
	size := uint32(window >> shift)
	rest, half := window&(1<<shift-1), uint64(1)<<(shift-1)
	if rest > half || rest == half && size&1 == 1 {
		size++
	}
	// The size's top bit, above the fraction, is added to the exponent: so are normal ones told from those below them, and a carry goes where it must.
	return min(uint32(below+shift-lowestBit)<<fractionBits+size, infinity)
}

// spread: the value of a float32 without a sign that is no infinity.
func spread(b uint32) fixed {
	exponent, size := int(b>>fractionBits), uint64(b&(1<<fractionBits-1))
	if exponent > 0 {
		size |= 1 << fractionBits
		exponent--
	}
	limb, shift := (lowestBit+exponent)/limbBits, (lowestBit+exponent)%limbBits
	size <<= shift
	var f fixed
	f[limb], f[limb+1] = uint32(size), uint32(size>>limbBits)
	return f
}

// spell puts the number behind text, and uses itself up.
func (f *fixed) spell(text []byte) []byte {
	var digits [greatestPoint]byte
	at := len(digits)
	for at == len(digits) || !isZero(f.whole()) {
		at--
		digits[at] = '0' + byte(overTen(f.whole(), 0))
	}
	text = append(text, digits[at:]...)
	if isZero(f.fraction()) {
		return text
	}
	text = append(text, '.')
	for !isZero(f.fraction()) {
		text = append(text, '0'+byte(timesTen(f.fraction(), 0)))
	}
	return text
}
