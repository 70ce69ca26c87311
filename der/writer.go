package der

import (
	"math/bits"

	"signet/api"
)

// lengths: how many bytes the contents of each element of a well shaped list have, and how many the whole of it.
func lengths(v []api.Tlv) (inside []int, whole int) {
	inside = make([]int, len(v))
	var waiting []int // the sizes of elements whose constructed one is still ahead, the foremost last
	for i := len(v) - 1; i >= 0; i-- {
		length := len(v[i].Data)
		rest := len(waiting) - v[i].Kids
		for _, kid := range waiting[rest:] {
			length += kid
		}
		inside[i] = length
		waiting = append(waiting[:rest], 2+digits(length)+length)
	}
	return inside, waiting[0]
}

// digits: of a length, behind the byte that says how many there are; a short length stands in that byte itself.
func digits(length int) int {
	if length < 0x80 {
		return 0
	}
	return (bits.Len(uint(length)) + 7) / 8
}

// appendHead: the tag and the length behind what is there.
func appendHead(out []byte, tag, length int) []byte {
	count := digits(length)
	if count == 0 {
		return append(out, byte(tag), byte(length))
	}
	out = append(out, byte(tag), byte(0x80+count))
	for shift := 8 * (count - 1); shift >= 0; shift -= 8 {
		out = append(out, byte(length>>shift))
	}
	return out
}
