// Package b64: base64url and base64, strict: see doc/01-b64.md.
package b64

import (
	"strings"

	"signet/api"
)

// A sign's number is its place in its row.
const (
	commonSigns = "ABCDEFGHIJKLMNOPQRSTUVWXYZabcdefghijklmnopqrstuvwxyz0123456789"
	urlSigns    = commonSigns + "-_"
	stdSigns    = commonSigns + "+/"
)

// Encode: base64url, without filling.
func Encode(b []byte) string { return string(spell(b, urlSigns)) }

// Decode: the bytes of a base64url text; the error, its place.
func Decode(s string) ([]byte, api.Errno, int) {
	if at := firstNoSign(s, urlSigns); at < len(s) {
		return nil, api.ErrSign, at
	}
	if len(s)%4 == 1 {
		return nil, api.ErrLen, len(s)
	}
	return read(s, urlSigns)
}

// EncodeStd: base64, filled.
func EncodeStd(b []byte) string {
	text := spell(b, stdSigns)
	switch len(b) % 3 {
	case 1:
		text = append(text, '=')
		fallthrough
	case 2:
		text = append(text, '=')
	}
	return string(text)
}

// DecodeStd: the bytes of a base64 text; the error, its place.
func DecodeStd(s string) ([]byte, api.Errno, int) {
	signs := unfilled(s)
	if at := firstNoSign(signs, stdSigns); at < len(signs) {
		return nil, api.ErrSign, at
	}
	if len(s)%4 != 0 {
		return nil, api.ErrLen, len(s)
	}
	return read(signs, stdSigns)
}

// unfilled: s without the filling at its end. Only two `=` may stand there: a third one is left, to be refused as no sign.
func unfilled(s string) string {
	return strings.TrimSuffix(strings.TrimSuffix(s, "="), "=")
}

// firstNoSign: the place of the first byte of s that is not in the row; s's length, if all are.
func firstNoSign(s, row string) int {
	for at := range len(s) {
		if strings.IndexByte(row, s[at]) < 0 {
			return at
		}
	}
	return len(s)
}

// spell: the signs of b, with room behind them for the filling.
func spell(b []byte, row string) []byte {
	text := make([]byte, 0, (len(b)+2)/3*4)
	for len(b) >= 3 {
		text = spellGroup(text, b[:3], row)
		b = b[3:]
	}
	return spellGroup(text, b, row)
}

// spellGroup puts the signs of at most three bytes behind text: one more than there are bytes, none for none.
func spellGroup(text, group []byte, row string) []byte {
	bits := uint32(0)
	switch len(group) {
	case 3:
		bits |= uint32(group[2])
		fallthrough
	case 2:
		bits |= uint32(group[1]) << 8
		fallthrough
	case 1:
		bits |= uint32(group[0]) << 16
	default:
		return text
	}
	for i := range len(group) + 1 {
		text = append(text, row[bits>>(18-6*i)&63])
	}
	return text
}

// read: the bytes of signs that are all in the row, and of a number that bytes have.
func read(signs, row string) ([]byte, api.Errno, int) {
	b := make([]byte, 0, len(signs)/4*3+2)
	for at := 0; at < len(signs); at += 4 {
		group := signs[at:min(at+4, len(signs))]
		bits := bitsOf(group, row)
		for range len(group) - 1 {
			b = append(b, byte(bits>>16))
			bits = bits << 8 & 0xffffff
		}
		if bits != 0 {
			return nil, api.ErrBits, len(signs) - 1
		}
	}
	return b, api.OK, 0
}

// bitsOf: the 24 bits that two, three or four signs begin.
func bitsOf(group, row string) uint32 {
	bits := uint32(0)
	switch len(group) {
	case 4:
		bits |= number(group[3], row)
		fallthrough
	case 3:
		bits |= number(group[2], row) << 6
		fallthrough
	case 2:
		bits |= number(group[1], row)<<12 | number(group[0], row)<<18
	}
	return bits
}

// number: a sign's number; the sign is in the row.
func number(sign byte, row string) uint32 {
	return uint32(strings.IndexByte(row, sign))
}
