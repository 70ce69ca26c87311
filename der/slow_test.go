package der_test

import (
	"bytes"
	"encoding/hex"
	"fmt"
	"math/big"
	"regexp"
	"slices"
	"strings"

	"signet/api"
)

// The chapter's words, taken slowly: what the package is held against.

// lengthBytes: a length in as few bytes as may be.
func lengthBytes(n int) []byte {
	if n <= 127 {
		return []byte{byte(n)}
	}
	digits := fmt.Sprintf("%x", n)
	digits = strings.Repeat("0", len(digits)%2) + digits
	return unhex(fmt.Sprintf("8%d%s", len(digits)/2, digits))
}

// longLength: a length in just so many bytes behind the first one, be they too many.
func longLength(n, digits int) []byte {
	out := []byte{byte(0x80 + digits)}
	for i := digits - 1; i >= 0; i-- {
		out = append(out, byte(uint64(n)>>(8*i)))
	}
	return out
}

// wantLength: the length at the front of b, and how many bytes it has itself. It is read in whatever form, and then written in the one form that may be.
func wantLength(b []byte) (length, size int, ok bool) {
	if len(b) == 0 {
		return 0, 0, false
	}
	digits := b[:1]
	if b[0] >= 0x80 {
		size := int(b[0] - 0x80)
		if size > 4 || len(b) < 1+size {
			return 0, 0, false
		}
		digits = b[1 : 1+size]
	}
	length = int(new(big.Int).SetBytes(digits).Int64())
	form := lengthBytes(length)
	return length, len(form), bytes.HasPrefix(b, form)
}

var groups = regexp.MustCompile("^((8[1-9a-f]|[9a-f].)([89a-f].)*[0-7].|[0-7].)+$")

// wantRight: are the contents of a primitive element right?
func wantRight(tag int, contents []byte) bool {
	text := hex.EncodeToString(contents)
	switch tag {
	case 0x01:
		return text == "00" || text == "ff"
	case 0x02:
		return len(contents) > 0 && len(contents) == len(twos(number(contents)))
	case 0x03:
		return len(contents) > 0 && contents[0] <= 7 && strings.HasSuffix(bitText(contents[1:]), strings.Repeat("0", int(contents[0])))
	case 0x05:
		return text == ""
	case 0x06:
		return groups.MatchString(text)
	}
	return tag != 0x10 && tag != 0x11
}

func bitText(b []byte) string {
	out := ""
	for _, x := range b[max(0, len(b)-1):] {
		out += fmt.Sprintf("%08b", x)
	}
	return out
}

// number: that of an INTEGER's contents; the highest bit counts below 0.
func number(contents []byte) *big.Int {
	x := new(big.Int).SetBytes(contents)
	if len(contents) > 0 && contents[0] >= 0x80 {
		x.Sub(x, new(big.Int).Lsh(big.NewInt(1), uint(8*len(contents))))
	}
	return x
}

// twos: the shortest contents of an INTEGER.
func twos(x *big.Int) []byte {
	for k := max(1, x.BitLen()/8); ; k++ {
		half := new(big.Int).Lsh(big.NewInt(1), uint(8*k-1))
		if x.Cmp(half) < 0 && x.Cmp(new(big.Int).Neg(half)) >= 0 {
			rest := new(big.Int).Mod(x, new(big.Int).Lsh(half, 1))
			return rest.FillBytes(make([]byte, k))
		}
	}
}

// wantTag: may the tag stand?
func wantTag(tag int) bool {
	return tag >= 0 && tag <= 255 && tag%32 != 31 && !slices.Contains([]int{0x10, 0x11, 0x21, 0x22, 0x23, 0x25, 0x26}, tag)
}

func wantConstructed(tag int) bool { return tag/32%2 == 1 }

// level: an open constructed element, its place in the list, and where it ends.
type level struct{ of, end int }

func wantParse(b []byte) ([]api.Tlv, api.Errno, int) {
	if len(b) > 65536 {
		return nil, api.ErrLarge, 0
	}
	var v []api.Tlv
	open := []level{{-1, len(b)}}
	at := 0
	for done := false; !done; {
		inner := open[len(open)-1]
		if at == len(b) {
			return nil, api.ErrDer, at
		}
		length, size, ok := wantLength(b[at+1 : inner.end])
		start := at + 1 + size
		stop := start + length
		tag := int(b[at])
		if !ok || stop > inner.end || !wantTag(tag) || !wantConstructed(tag) && !wantRight(tag, b[start:stop]) {
			return nil, api.ErrDer, at
		}
		if inner.of >= 0 {
			v[inner.of].Kids++
		}
		if wantConstructed(tag) {
			if len(open) == 33 {
				return nil, api.ErrDeep, at
			}
			open = append(open, level{len(v), stop})
			v = append(v, api.Tlv{Tag: tag})
			at = start
		} else {
			v = append(v, api.Tlv{Tag: tag, Data: b[start:stop]})
			at = stop
		}
		for len(open) > 1 && open[len(open)-1].end == at {
			open = open[:len(open)-1]
		}
		done = len(open) == 1
	}
	if at < len(b) {
		return nil, api.ErrDer, at
	}
	return v, api.OK, 0
}

func wantShaped(v []api.Tlv) bool {
	awaited := []int{1} // how many more there must be: of the whole, and of what stands in each open one
	for _, t := range v {
		for len(awaited) > 0 && awaited[len(awaited)-1] == 0 {
			awaited = awaited[:len(awaited)-1]
		}
		if len(awaited) == 0 || !wantTag(t.Tag) || t.Kids < 0 {
			return false
		}
		awaited[len(awaited)-1]--
		if !wantConstructed(t.Tag) {
			if t.Kids != 0 || !wantRight(t.Tag, t.Data) {
				return false
			}
			continue
		}
		if len(awaited) > 32 || len(t.Data) > 0 {
			return false
		}
		awaited = append(awaited, t.Kids)
	}
	return !slices.ContainsFunc(awaited, func(n int) bool { return n > 0 })
}

// wantBytes: those of a well shaped list, however many.
func wantBytes(v []api.Tlv) []byte {
	var one func() []byte
	one = func() []byte {
		t := v[0]
		v = v[1:]
		contents := slices.Clone(t.Data)
		for range t.Kids {
			contents = append(contents, one()...)
		}
		return slices.Concat([]byte{byte(t.Tag)}, lengthBytes(len(contents)), contents)
	}
	return one()
}

func wantPrint(v []api.Tlv) ([]byte, api.Errno) {
	if !wantShaped(v) {
		return nil, api.ErrDer
	}
	if b := wantBytes(v); len(b) <= 65536 {
		return b, api.OK
	}
	return nil, api.ErrLarge
}

func wantUint(t api.Tlv) ([]byte, bool) {
	if t.Tag != 2 || t.Kids != 0 || !wantRight(2, t.Data) || number(t.Data).Sign() < 0 {
		return nil, false
	}
	return number(t.Data).Bytes(), true
}

func wantOfUint(b []byte) api.Tlv {
	return api.Tlv{Tag: 2, Data: twos(new(big.Int).SetBytes(b))}
}

var beyond = big.NewInt(1 << 31)

func wantOid(t api.Tlv) (string, bool) {
	if t.Tag != 6 || t.Kids != 0 || !wantRight(6, t.Data) {
		return "", false
	}
	var numbers []*big.Int
	x := new(big.Int)
	for _, b := range t.Data {
		x = new(big.Int).Add(new(big.Int).Lsh(x, 7), big.NewInt(int64(b%128)))
		if b >= 128 {
			continue
		}
		if len(numbers) == 0 {
			root := int64(0)
			for root < 2 && x.Cmp(big.NewInt(40)) >= 0 {
				root++
				x.Sub(x, big.NewInt(40))
			}
			numbers = append(numbers, big.NewInt(root))
		}
		numbers = append(numbers, x)
		x = new(big.Int)
	}
	var texts []string
	for _, n := range numbers {
		if n.Cmp(beyond) >= 0 {
			return "", false
		}
		texts = append(texts, n.String())
	}
	return strings.Join(texts, "."), true
}

var oidText = regexp.MustCompile(`^([01]\.([1-3]?[0-9])|2\.(0|[1-9][0-9]*))(\.(0|[1-9][0-9]*))*$`)

func wantOfOid(s string) (api.Tlv, bool) {
	if !oidText.MatchString(s) || strings.HasSuffix(s, "\n") {
		return api.Tlv{}, false
	}
	var data []byte
	ahead := new(big.Int)
	for i, text := range strings.Split(s, ".") {
		n, _ := new(big.Int).SetString(text, 10)
		if n.Cmp(beyond) >= 0 {
			return api.Tlv{}, false
		}
		if i == 0 {
			ahead.Mul(n, big.NewInt(40))
			continue
		}
		data = append(data, group(n.Add(n, ahead))...)
		ahead.SetInt64(0)
	}
	return api.Tlv{Tag: 6, Data: data}, true
}

// group: the bytes of a number, seven bits in each, as few as may be.
func group(n *big.Int) []byte {
	out := []byte{byte(new(big.Int).And(n, big.NewInt(127)).Int64())}
	for n = new(big.Int).Rsh(n, 7); n.Sign() > 0; n = new(big.Int).Rsh(n, 7) {
		out = append(out, 128+byte(new(big.Int).And(n, big.NewInt(127)).Int64()))
	}
	slices.Reverse(out)
	return out
}
