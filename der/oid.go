package der

import (
	"math/bits"
	"strconv"
	"strings"

	"signet/api"
)

// numberBits: a number of an identifier that has more of them is not told.
const numberBits = 31

// Oid: an OBJECT IDENTIFIER as numbers with dots.
func Oid(t api.Tlv) (string, bool) {
	if !alone(t, identifier) {
		return "", false
	}
	var text []byte
	number := uint64(0)
	for _, b := range t.Data {
		number = number<<7 | uint64(b&0x7f)
		// The first group holds up to 80 more than the number that it tells.
		if number >= 1<<numberBits+80 {
			return "", false
		}
		if b >= 0x80 {
			continue
		}
		if len(text) == 0 {
			root := min(number/40, 2)
			text = strconv.AppendUint(text, root, 10)
			number -= 40 * root
		}
		if number >= 1<<numberBits {
			return "", false
		}
		text = strconv.AppendUint(append(text, '.'), number, 10)
		number = 0
	}
	return string(text), true
}

// OfOid: the OBJECT IDENTIFIER.
func OfOid(s string) (api.Tlv, bool) {
	n, ok := numbers(s)
	if !ok || len(n) < 2 || n[0] > 2 || n[0] < 2 && n[1] >= 40 {
		return api.Tlv{}, false
	}
	n[1] += 40 * n[0]
	var data []byte
	for _, number := range n[1:] {
		data = appendGroup(data, number)
	}
	return api.Tlv{Tag: identifier, Data: data}, true
}

// numbers: those of a text with dots, each spelled in the one way.
func numbers(s string) ([]uint64, bool) {
	var out []uint64
	for part := range strings.SplitSeq(s, ".") {
		n, err := strconv.ParseUint(part, 10, numberBits)
		if err != nil || len(part) > 1 && part[0] == '0' {
			return nil, false
		}
		out = append(out, n)
	}
	return out, true
}

// appendGroup: a number behind what is there, seven bits a byte.
func appendGroup(out []byte, number uint64) []byte {
	for shift := (bits.Len64(number|1) - 1) / 7 * 7; shift > 0; shift -= 7 {
		out = append(out, 0x80|byte(number>>shift))
	}
	return append(out, byte(number&0x7f))
}
