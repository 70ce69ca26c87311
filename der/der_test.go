package der_test

import (
	"bytes"
	"encoding/hex"
	"math"
	"math/rand"
	"slices"
	"strings"
	"testing"

	"signet/api"
	"signet/der"
)

// unhex: bytes in the base sixteen, blanks between them as one likes.
func unhex(text string) []byte {
	b, err := hex.DecodeString(strings.ReplaceAll(text, " ", ""))
	if err != nil {
		panic(err)
	}
	return b
}

func sameTlv(a, b api.Tlv) bool {
	return a.Tag == b.Tag && a.Kids == b.Kids && bytes.Equal(a.Data, b.Data)
}

func same(a, b []api.Tlv) bool { return slices.EqualFunc(a, b, sameTlv) }

func primitive(tag int, contents string) api.Tlv { return api.Tlv{Tag: tag, Data: unhex(contents)} }

// element: its bytes, with the length in the one form.
func element(tag int, contents ...[]byte) []byte {
	inside := bytes.Join(contents, nil)
	return slices.Concat([]byte{byte(tag)}, lengthBytes(len(inside)), inside)
}

// Asking, with every answer held against the chapter's words, P4, and what follows from the answer.

func holdParse(t *testing.T, b []byte) {
	t.Helper()
	want, wantCode, wantAt := wantParse(b)
	got, code, at := der.Parse(b)
	if code != wantCode || at != wantAt || !same(got, want) {
		t.Fatalf("8.1: Parse(%.60x) = %+.60v, %d at %d, want %+.60v, %d at %d", b, got, int(code), at, want, int(wantCode), wantAt)
	}
	if code != api.OK {
		if got != nil {
			t.Fatalf("P4: Parse(%.60x) refuses, and answers %+v", b, got)
		}
		return
	}
	if back, code := der.Print(got); !der.Shaped(got) || code != api.OK || !bytes.Equal(back, b) {
		t.Fatalf("8.4: Print of Parse(%.60x) = %.60x, %d; Shaped: %v", b, back, int(code), der.Shaped(got))
	}
}

func holdTaken(t *testing.T, b []byte, want ...api.Tlv) {
	t.Helper()
	if got, code, at := der.Parse(b); code != api.OK || at != 0 || !same(got, want) {
		t.Fatalf("8.1: Parse(%.60x) = %+.60v, %d at %d, want %+.60v", b, got, int(code), at, want)
	}
	holdParse(t, b)
}

func holdFault(t *testing.T, b []byte, wantCode api.Errno, wantAt int) {
	t.Helper()
	if v, code, at := der.Parse(b); v != nil || code != wantCode || at != wantAt {
		t.Fatalf("8.1: Parse(%.60x) of %d bytes = %+.60v, %d at %d, want %d at %d", b, len(b), v, int(code), at, int(wantCode), wantAt)
	}
	holdParse(t, b)
}

// holdList: Shaped, Print and there and back, of whatever list.
func holdList(t *testing.T, v []api.Tlv) {
	t.Helper()
	shaped := wantShaped(v)
	if got := der.Shaped(v); got != shaped {
		t.Fatalf("8.2: Shaped(%+.90v) = %v", v, got)
	}
	want, wantCode := wantPrint(v)
	b, code := der.Print(v)
	if code != wantCode || !bytes.Equal(b, want) {
		t.Fatalf("8.3: Print(%+.90v) = %.60x, %d, want %.60x, %d", v, b, int(code), want, int(wantCode))
	}
	if code != api.OK {
		if b != nil {
			t.Fatalf("P4: Print(%+.90v) refuses, and answers %x", v, b)
		}
		return
	}
	if back, code, at := der.Parse(b); code != api.OK || at != 0 || !same(back, v) {
		t.Fatalf("8.4: Parse of Print(%+.90v) = %+.90v, %d at %d", v, back, int(code), at)
	}
}

func holdNotShaped(t *testing.T, what string, v ...api.Tlv) {
	t.Helper()
	if der.Shaped(v) {
		t.Errorf("8.2: Shaped: %s: %+.90v", what, v)
	}
	if b, code := der.Print(v); b != nil || code != api.ErrDer {
		t.Errorf("8.3: Print: %s: %.60x, %d", what, b, int(code))
	}
	holdList(t, v)
}

// holdAlone: Uint and Oid of whatever element, and back.
func holdAlone(t *testing.T, x api.Tlv) {
	t.Helper()
	want, wantOk := wantUint(x)
	b, ok := der.Uint(x)
	if ok != wantOk || !bytes.Equal(b, want) {
		t.Fatalf("8.5: Uint(%+.90v) = %.60x, %v, want %.60x, %v", x, b, ok, want, wantOk)
	}
	if !ok && b != nil {
		t.Fatalf("P4: Uint(%+.90v) = %x, false", x, b)
	}
	if back := der.OfUint(b); ok && !sameTlv(back, x) {
		t.Fatalf("8.7: OfUint of Uint(%+.90v) = %+.90v", x, back)
	}
	wantText, wantOk := wantOid(x)
	text, ok := der.Oid(x)
	if ok != wantOk || text != wantText {
		t.Fatalf("8.6: Oid(%+.90v) = %q, %v, want %q, %v", x, text, ok, wantText, wantOk)
	}
	if !ok {
		return
	}
	if back, ok := der.OfOid(text); !ok || !sameTlv(back, x) {
		t.Fatalf("8.7: OfOid(%q) = %+.90v, %v, want %+.90v", text, back, ok, x)
	}
}

func holdBytes(t *testing.T, b []byte) {
	t.Helper()
	x := der.OfUint(b)
	if want := wantOfUint(b); !sameTlv(x, want) {
		t.Fatalf("8.5: OfUint(%.60x) = %+.90v, want %+.90v", b, x, want)
	}
	if back, ok := der.Uint(x); !ok || !bytes.Equal(back, bytes.TrimLeft(b, "\x00")) {
		t.Fatalf("8.7: Uint of OfUint(%.60x) = %.60x, %v", b, back, ok)
	}
	holdList(t, []api.Tlv{x})
}

func holdText(t *testing.T, s string) {
	t.Helper()
	want, wantOk := wantOfOid(s)
	x, ok := der.OfOid(s)
	if ok != wantOk || !sameTlv(x, want) {
		t.Fatalf("8.6: OfOid(%.60q) = %+.90v, %v, want %+.90v, %v", s, x, ok, want, wantOk)
	}
	if !ok {
		if x.Data != nil {
			t.Fatalf("P4: OfOid(%.60q) = %+v, false", s, x)
		}
		return
	}
	if back, ok := der.Oid(x); !ok || back != s {
		t.Fatalf("8.6: Oid of OfOid(%.60q) = %.60q, %v", s, back, ok)
	}
	holdList(t, []api.Tlv{x})
}

// nested: n sequences, one in the other, and bytes in the innermost one.
func nested(n int, inside ...byte) []byte {
	for range n {
		inside = element(0x30, inside)
	}
	return inside
}

// The rows of the chapter's table.
func TestExamples(t *testing.T) {
	holdFault(t, unhex("30 06 02 01 05 05 00"), api.ErrDer, 0)
	holdTaken(t, unhex("30 05 02 01 05 05 00"), api.Tlv{Tag: 0x30, Kids: 2}, primitive(2, "05"), primitive(5, ""))
	for _, text := range []string{"", "30", "30 80 00 00", "30 81 05 02 01 05 05 00", "1f 01 00", "10 00", "22 00"} {
		holdFault(t, unhex(text), api.ErrDer, 0)
	}
	holdFault(t, unhex("05 00 00"), api.ErrDer, 2)
	holdFault(t, unhex("30 03 05 00 05"), api.ErrDer, 4)
	holdFault(t, unhex("30 02 02 00"), api.ErrDer, 2)
	for _, text := range []string{"02 02 00 7f", "02 02 ff 80", "03 01 01", "03 02 07 81", "03 00", "06 01 80", "06 02 80 01", "06 02 2a 86", "06 00"} {
		holdFault(t, unhex(text), api.ErrDer, 0)
	}
	for _, text := range []string{"02 02 00 80", "02 01 80", "03 01 00", "03 02 07 80"} {
		b := unhex(text)
		holdTaken(t, b, api.Tlv{Tag: int(b[0]), Data: b[2:]})
	}
	holdFault(t, nested(33), api.ErrDeep, 64)
	for _, c := range []struct {
		tag            int
		contents, want string
		ok             bool
	}{{2, "00 80", "80", true}, {2, "00", "", true}, {2, "80", "", false}, {5, "", "", false}} {
		if got, ok := der.Uint(primitive(c.tag, c.contents)); ok != c.ok || !bytes.Equal(got, unhex(c.want)) {
			t.Errorf("8.5: Uint of %02x: %s = %x, %v", c.tag, c.contents, got, ok)
		}
	}
	if got := der.OfUint(unhex("00 00 80")); !sameTlv(got, primitive(2, "00 80")) {
		t.Errorf("8.5: OfUint(00 00 80) = %+v", got)
	}
	if got := der.OfUint(nil); !sameTlv(got, primitive(2, "00")) {
		t.Errorf("8.5: OfUint of nothing = %+v", got)
	}
	for contents, want := range map[string]string{"2a 86 48 86 f7 0d 01 01 01": "1.2.840.113549.1.1.1", "88 37": "2.999"} {
		if got, ok := der.Oid(primitive(6, contents)); !ok || got != want {
			t.Errorf("8.6: Oid of 06: %s = %q, %v", contents, got, ok)
		}
	}
	for s, want := range map[string]string{"1.2": "2a", "2.999": "88 37"} {
		if got, ok := der.OfOid(s); !ok || !sameTlv(got, primitive(6, want)) {
			t.Errorf("8.6: OfOid(%s) = %+v, %v", s, got, ok)
		}
	}
	for _, s := range []string{"1.40", "3.1", "1", "1.02", "1..2", "0.2147483648"} {
		if got, ok := der.OfOid(s); ok || !sameTlv(got, api.Tlv{}) {
			t.Errorf("8.6: OfOid(%s) = %+v, %v", s, got, ok)
		}
	}
}

// Every length about an edge, in its shortest form and in all longer ones, with just as many bytes behind it, one less, one more.
func TestLengths(t *testing.T) {
	for _, n := range []int{0, 1, 126, 127, 128, 129, 254, 255, 256, 257, 1000, 65530, 65531, 65532, 65533, 65534, 65535, 65536, 65537, 1<<24 - 1, 1 << 24, 1<<32 - 1} {
		data := make([]byte, min(n+1, 65537))
		short := len(lengthBytes(n)) - 1
		for digits := range 9 {
			if 0 < digits && digits < short {
				continue // so few hold another number
			}
			form := lengthBytes(n)
			if digits != short {
				form = longLength(n, digits)
			}
			head := slices.Concat([]byte{4}, form)
			whole := slices.Concat(head, data[:min(n, len(data))])
			switch {
			case len(whole) > 65536:
				holdFault(t, whole, api.ErrLarge, 0)
			case digits == short:
				holdTaken(t, whole, api.Tlv{Tag: 4, Data: data[:n]})
				if len(whole) < 65536 {
					holdFault(t, append(slices.Clone(whole), 4), api.ErrDer, len(whole))
				}
			default:
				// 80, the length that is not told, and with it all longer forms.
				holdFault(t, whole, api.ErrDer, 0)
			}
			for _, cut := range []int{1, 2, len(head) - 1, len(head), len(head) + 1, 65536, min(len(whole), 65537) - 1} {
				if cut < len(whole) {
					holdFault(t, whole[:cut], api.ErrDer, 0)
				}
			}
			if len(whole) < 65000 {
				holdWithin(t, whole, digits == short)
			}
		}
	}
	for first := range 128 {
		head := append([]byte{4, byte(0x80 + first)}, slices.Repeat([]byte{1}, 200)...)
		if first == 1 {
			head[2] = 200
		}
		if first == 0 || first > 4 {
			holdFault(t, head, api.ErrDer, 0)
		}
		holdParse(t, head)
	}
}

// holdWithin: an element within others, which reach just to its end, one byte less far, one byte farther.
func holdWithin(t *testing.T, whole []byte, taken bool) {
	t.Helper()
	for _, ahead := range [][]byte{nil, {5, 0}} {
		inside := slices.Concat(ahead, whole)
		b := element(0x30, inside)
		from := len(b) - len(whole)
		if taken {
			holdParse(t, b)
			if _, code, _ := der.Parse(b); code != api.OK {
				t.Fatalf("8.1: Parse(%.60x): %d", b, int(code))
			}
		} else {
			holdFault(t, b, api.ErrDer, from)
		}
		// Cut as b ends, and as the element around it ends: the first is the outer one's fault.
		holdFault(t, b[:len(b)-1], api.ErrDer, 0)
		less := slices.Concat([]byte{0x30}, lengthBytes(len(inside)-1), inside)
		holdFault(t, less, api.ErrDer, len(less)-len(whole))
		holdFault(t, slices.Concat([]byte{0x30}, lengthBytes(len(inside)+1), inside), api.ErrDer, 0)
		holdFault(t, element(0x31, less, []byte{5, 0}), api.ErrDer, len(element(0x31, less, []byte{5, 0}))-2-len(whole))
	}
}

// Every tag with no contents, and with every one byte.
func TestTags(t *testing.T) {
	never := []int{0x10, 0x11, 0x1f, 0x21, 0x22, 0x23, 0x25, 0x26, 0x3f, 0x5f, 0x7f, 0x9f, 0xbf, 0xdf, 0xff}
	notEmpty := []int{0x01, 0x02, 0x03, 0x06}
	for tag := range 256 {
		b := []byte{byte(tag), 0}
		empty := api.Tlv{Tag: tag}
		if slices.Contains(never, tag) || slices.Contains(notEmpty, tag) {
			holdFault(t, b, api.ErrDer, 0)
			holdFault(t, element(0x30, []byte{5, 0}, b), api.ErrDer, 4)
			holdNotShaped(t, "an empty one", empty)
		} else {
			holdTaken(t, b, empty)
			holdTaken(t, element(0x30, []byte{5, 0}, b), api.Tlv{Tag: 0x30, Kids: 2}, primitive(5, ""), empty)
		}
		for x := range 256 {
			b := []byte{byte(tag), 1, byte(x)}
			one := api.Tlv{Tag: tag, Data: b[2:]}
			wrong := tag == 1 && x != 0 && x != 0xff || tag == 3 && x != 0 || tag == 5 || tag == 6 && x >= 0x80
			switch {
			case slices.Contains(never, tag) || wrong:
				holdFault(t, b, api.ErrDer, 0)
				holdNotShaped(t, "one byte", one)
			case tag&0x20 != 0:
				// A byte alone is no element.
				holdFault(t, b, api.ErrDer, 2)
				holdNotShaped(t, "a constructed one with bytes", one)
			default:
				holdTaken(t, b, one)
			}
			holdAlone(t, one)
		}
		holdAlone(t, empty)
		holdConstructed(t, tag, slices.Contains(never, tag))
	}
	for _, tag := range []int{-1, -2, -31, -256, 256, 257, 256 + 0x30, 1 << 20, math.MinInt, math.MinInt + 5, math.MaxInt, math.MaxInt - 31} {
		holdNotShaped(t, "a tag that no byte is", api.Tlv{Tag: tag})
		holdNotShaped(t, "a tag that no byte is, in another one", api.Tlv{Tag: 0x30, Kids: 1}, api.Tlv{Tag: tag})
		holdAlone(t, api.Tlv{Tag: tag, Data: []byte{1}})
	}
	for _, tag := range []int{2 + 256, 2 - 256, 6 + 256, 6 - 256} {
		holdNotShaped(t, "a tag that no byte is", primitive(tag, "2a"))
		holdAlone(t, primitive(tag, "2a"))
	}
}

// holdConstructed: a tag around an element, and around two.
func holdConstructed(t *testing.T, tag int, never bool) {
	t.Helper()
	b := element(tag, []byte{5, 0})
	two := element(tag, []byte{5, 0}, []byte{1, 1, 0xff})
	list := []api.Tlv{{Tag: tag, Kids: 1}, {Tag: 5}}
	switch {
	case tag&0x20 != 0 && !never:
		holdTaken(t, b, list...)
		holdTaken(t, two, api.Tlv{Tag: tag, Kids: 2}, primitive(5, ""), primitive(1, "ff"))
	case tag&0x20 != 0:
		holdFault(t, b, api.ErrDer, 0)
		holdFault(t, two, api.ErrDer, 0)
		holdNotShaped(t, "a tag that is never right", list...)
	default:
		holdParse(t, b)
		holdParse(t, two)
		holdNotShaped(t, "Kids of a primitive one", list...)
		holdNotShaped(t, "Kids below 0", api.Tlv{Tag: tag, Kids: -1})
	}
}

// contents: of a tag, those that are right, and those that are wrong (none, if there is no text).
var contents = []struct {
	tag          int
	right, wrong string
}{
	{0x01, "00, ff", ", 01, 7f, 80, fe, 0000, ffff, ff00, 00ff, 000000"},
	{0x02, "00, 01, 7f, 80, ff, 0080, 00ff, 0100, 017f, 7fff, 8000, 807f, fe80, feff, ff00, ff7f, 008000, 00800000, ff7fff", ", 0000, 0001, 007f, ff80, ffff, 000000, 000080, 007fff, ff8000, ffff00, ffffff"},
	{0x03, "00, 0000, 00ff, 0180, 01fe, 02fc, 03f8, 04f0, 05e0, 06c0, 0780, 0700, 070100, 07ff80, 04ffffffff10", ", 01, 02, 03, 04, 05, 06, 07, 08, 80, ff, 0101, 0202, 0201, 0304, 0408, 0510, 0620, 0740, 0701, 07ff, 0800, 0900, 1000, 8000, ff00, 01ff, 010001, 078001, 04ffffffff08"},
	{0x05, "", "00, 0500, ff, 000000"},
	{0x06, "00, 7f, 2a, 8100, 817f, ff7f, 2a864886f70d, 2a00, 2a8100, 888080804f, 8880808050, ffffffffffffffffffff7f, 2affffffffffffffffffffffffff00, 0000000000", ", 80, ff, 8000, 8001, 807f, 80807f, 2a80, 2aff, 2a8000, 2a8001, 2a817f80, 818181, 2a808100, 2a81807f8000"},
	{0x04, ", 00, ff, 8000, 0000, 30, 3080", ""},
	{0x13, ", 00, ff, 8000, 41", ""},
	{0x80, ", 00, ff, 8000", ""},
	{0x82, ", 00, 0000, ffff", ""},
	{0x41, ", 01, 0000", ""},
	{0xc6, ", 80, 8000", ""},
}

func TestContents(t *testing.T) {
	for _, c := range contents {
		for _, text := range strings.Split(c.right, ", ") {
			x := primitive(c.tag, text)
			holdTaken(t, element(c.tag, x.Data), x)
			holdList(t, []api.Tlv{x})
			holdAlone(t, x)
			b := element(0x30, element(0xa3, element(c.tag, x.Data)), []byte{5, 0})
			holdTaken(t, b, api.Tlv{Tag: 0x30, Kids: 2}, api.Tlv{Tag: 0xa3, Kids: 1}, x, primitive(5, ""))
		}
		if c.wrong == "" {
			continue
		}
		for _, text := range strings.Split(c.wrong, ", ") {
			x := primitive(c.tag, text)
			holdFault(t, element(c.tag, x.Data), api.ErrDer, 0)
			holdFault(t, element(0x30, element(0xa3, element(c.tag, x.Data)), []byte{5, 0}), api.ErrDer, 4)
			holdNotShaped(t, "contents that are not right", x)
			holdNotShaped(t, "contents that are not right", api.Tlv{Tag: 0xa3, Kids: 2}, primitive(5, ""), x)
			holdAlone(t, x)
		}
	}
}

// All short texts of some alphabets.
func TestEveryShortText(t *testing.T) {
	for _, a := range []struct {
		head, signs string
		length      int
	}{
		{"", "00 01 02 03 04 05 06 30 7f 80 81 a0 ff", 5},
		{"30 04", "00 01 02 03 04 05 06 30 80 ff", 5},
		{"30 06 30", "00 01 02 03 04 05 31", 6},
		{"02", "00 01 02 03 7f 80 81 fe ff", 5},
		{"03", "00 01 02 03 04 06 07 08 80 c0 ff", 5},
		{"06", "00 01 02 03 04 2a 7f 80 81 ff", 5},
		{"04", "00 01 02 7f 80 81 82 83 84 85", 5},
	} {
		signs := unhex(a.signs)
		var walk func(b []byte, left int)
		walk = func(b []byte, left int) {
			holdParse(t, b)
			for i := 0; i < len(signs) && left > 0; i++ {
				walk(append(b[:len(b):len(b)], signs[i]), left-1)
			}
		}
		walk(unhex(a.head), a.length)
	}
}

// MaxDepth constructed elements, one in the other, and one more: as the last thing and with more behind it, and what is closed ahead of it does not count.
func TestDepth(t *testing.T) {
	for _, n := range []int{1, 2, 30, 31, 32} {
		for _, inside := range []string{"", "05 00", "05 00 01 01 ff"} {
			b := nested(n, unhex(inside)...)
			if v, code, at := der.Parse(b); code != api.OK || at != 0 || len(v) < n {
				t.Fatalf("8.1: %d sequences, one in the other: %d at %d", n, int(code), at)
			}
			holdParse(t, b)
		}
	}
	for _, n := range []int{33, 34, 60, 300} {
		for _, inside := range []string{"", "05 00", "ff"} {
			b := nested(n, unhex(inside)...)
			_, head, _ := wantLength(b[1:])
			at := 0
			for range 32 {
				at += 1 + head
				_, head, _ = wantLength(b[at+1:])
			}
			holdFault(t, b, api.ErrDeep, at)
		}
	}
	// With more behind the innermost ones, and behind all.
	for depth := 30; depth <= 34; depth++ {
		for _, tag := range []int{0x24, 0x30, 0x31, 0xa0, 0xe0} {
			inner := element(tag)
			for i := range depth - 1 {
				switch i % 3 {
				case 0:
					inner = element(0x30, inner, []byte{5, 0})
				case 1:
					inner = element(0x31, []byte{0x30, 0}, inner, []byte{0x30, 2, 0xa1, 0})
				default:
					inner = element(0xa0, nested(2), inner, []byte{0x30, 0}, []byte{4, 1, 7})
				}
			}
			want := api.OK
			if depth > 32 {
				want = api.ErrDeep
			}
			if _, code, _ := der.Parse(inner); code != want {
				t.Errorf("8.1: %d deep: %d", depth, int(code))
			}
			holdParse(t, inner)
			holdParse(t, append(inner, 0))
		}
	}
	wide := element(0x30, slices.Repeat(nested(31), 500))
	if v, code, _ := der.Parse(wide); code != api.OK || len(v) != 1+500*31 {
		t.Errorf("8.1: many, each as deep as may be: %d", int(code))
	}
	holdParse(t, wide)
}

// The same of lists.
func TestDepthOfLists(t *testing.T) {
	for _, n := range []int{1, 31, 32, 33, 34, 1000, 100000} {
		for _, last := range [][]api.Tlv{{{Tag: 0x30}}, {{Tag: 0x30, Kids: 1}, {Tag: 5}}, {{Tag: 0xa0, Kids: 2}, {Tag: 5}, primitive(2, "01")}} {
			v := append(slices.Repeat([]api.Tlv{{Tag: 0x31, Kids: 1}}, n-1), last...)
			if got := der.Shaped(v); got != (n <= 32) {
				t.Errorf("8.2: Shaped of %d, one in the other: %v", n, got)
			}
			if b, code := der.Print(v); (code == api.OK) != (n <= 32) || n > 32 && (code != api.ErrDer || b != nil) {
				t.Errorf("8.3: Print of %d, one in the other: %d", n, int(code))
			}
			if n < 100 {
				holdList(t, v)
			}
		}
	}
}

// Where there are two faults, the first one is told, and of one element ErrDer ahead of ErrDeep.
func TestTwoFaults(t *testing.T) {
	deep := func(inside ...byte) []byte { return nested(32, inside...) }
	from := len(deep()) // of what stands in the innermost one, as long as all lengths are short
	for _, c := range []struct {
		what string
		b    []byte
		code api.Errno
		at   int
	}{
		{"contents, and a byte behind", unhex("02 00 00"), api.ErrDer, 0},
		{"inner contents, and a byte behind", unhex("30 02 02 00 00"), api.ErrDer, 2},
		{"a byte behind, and that is no tag", unhex("05 00 1f"), api.ErrDer, 2},
		{"two inner contents", unhex("30 06 05 00 02 00 01 00"), api.ErrDer, 4},
		{"the outer length, and inner contents", unhex("30 05 02 00 05 00"), api.ErrDer, 0},
		{"the outer tag, and inner contents", unhex("3f 02 02 00"), api.ErrDer, 0},
		{"a constructed INTEGER, and what stands in it", unhex("22 02 02 00"), api.ErrDer, 0},
		{"a constructed NULL with a NULL in it", unhex("30 04 25 02 05 00"), api.ErrDer, 2},
		{"an inner length, and contents ahead of it", unhex("30 05 05 01 00 04 09"), api.ErrDer, 2},
		{"contents behind an inner length", unhex("30 05 04 09 00 05 01"), api.ErrDer, 2},
		{"a 33rd one", deep(0x30, 0), api.ErrDeep, from},
		{"a 33rd one with a fault in it", deep(0x30, 2, 2, 0), api.ErrDeep, from},
		{"a 33rd one, and a fault behind it", deep(0x30, 0, 2, 0), api.ErrDeep, from},
		{"a 33rd one, and a fault ahead of it", deep(2, 0, 0x30, 0), api.ErrDer, from},
		{"a 33rd one that has no length", deep(0x30), api.ErrDer, from},
		{"a 33rd one whose length is none", deep(0x30, 0x80, 0, 0), api.ErrDer, from},
		{"a 33rd one whose length is too long a form", deep(0x30, 0x81, 0), api.ErrDer, from},
		{"a 33rd one that reaches beyond", deep(0x30, 1), api.ErrDer, from},
		{"a 33rd one of a tag that is none", deep(0x3f, 0), api.ErrDer, from},
		{"a 33rd one of a tag that is never right", deep(0x22, 0), api.ErrDer, from},
		{"a 33rd that is primitive", deep(0x10, 0), api.ErrDer, from},
		{"a 33rd one, and a byte behind all", append(deep(0x30, 0), 0), api.ErrDeep, from},
	} {
		if v, code, at := der.Parse(c.b); v != nil || code != c.code || at != c.at {
			t.Errorf("8.1: %s: Parse(%x) = %+v, %d at %d, want %d at %d", c.what, c.b, v, int(code), at, int(c.code), c.at)
		}
		holdParse(t, c.b)
	}
	holdFault(t, deep(5, 0, 0x30, 0), api.ErrDeep, from+2)
}

// Bytes of just MaxDer, and of one more: whatever they are.
func TestMaxDer(t *testing.T) {
	most := api.MaxDer
	data := make([]byte, most-4)
	whole := element(4, data)
	if len(whole) != most {
		t.Fatalf("%d bytes", len(whole))
	}
	holdTaken(t, whole, api.Tlv{Tag: 4, Data: data})
	holdFault(t, append(slices.Clone(whole), 0), api.ErrLarge, 0)
	holdFault(t, element(4, data, []byte{0}), api.ErrLarge, 0)
	holdFault(t, make([]byte, most), api.ErrDer, 2)
	holdFault(t, make([]byte, most+1), api.ErrLarge, 0)
	holdFault(t, make([]byte, 1<<20), api.ErrLarge, 0)
	holdFault(t, slices.Repeat([]byte{0xff}, most), api.ErrDer, 0)
	holdFault(t, slices.Repeat([]byte{0xff}, most+1), api.ErrLarge, 0)
	holdFault(t, append(nested(33), make([]byte, most)...), api.ErrLarge, 0)
	wide := element(0x30, slices.Repeat([]byte{5, 0}, most/2-2))
	v, code, _ := der.Parse(wide)
	if len(wide) != most || code != api.OK || len(v) != most/2-1 || v[0].Kids != most/2-2 {
		t.Errorf("8.1: %d elements of %d bytes, %d", len(v), len(wide), int(code))
	}
	holdParse(t, wide)
	holdList(t, v)
	for _, tag := range []int{2, 3, 6} {
		holdParse(t, element(tag, []byte{1}, data[1:]))
		holdParse(t, element(tag, data))
		holdParse(t, element(tag, slices.Repeat([]byte{0x81}, most-4)))
	}
}

func TestPrintLarge(t *testing.T) {
	most := api.MaxDer
	octets := func(n int) api.Tlv { return api.Tlv{Tag: 4, Data: make([]byte, n)} }
	// Each has just most bytes, if the last of its elements has none more.
	for _, c := range [][]api.Tlv{
		{octets(most - 4)},
		{{Tag: 0x30, Kids: 1}, octets(most - 8)},
		{{Tag: 0x30, Kids: 2}, {Tag: 5}, octets(most - 10)},
		{{Tag: 0x30, Kids: 2}, octets(127), octets(most - 4 - 129 - 4)},
		{{Tag: 0x30, Kids: 2}, octets(128), octets(most - 4 - 131 - 4)},
		{{Tag: 0x30, Kids: 2}, octets(255), octets(most - 4 - 258 - 4)},
		{{Tag: 0x30, Kids: 2}, octets(256), octets(most - 4 - 260 - 4)},
		{{Tag: 0x31, Kids: 1}, {Tag: 0xa0, Kids: 2}, octets(30000), octets(most - 8 - 30004 - 4)},
		{{Tag: 0x30, Kids: 2}, octets(most - 4 - 4 - 2 - 100), octets(100)},
	} {
		holdList(t, c)
		if b, code := der.Print(c); code != api.OK || len(b) != most {
			t.Errorf("8.3: Print(%+.90v): %d bytes, %d", c, len(b), int(code))
		}
		past := slices.Clone(c)
		last := &past[len(past)-1]
		last.Data = append(last.Data, 0)
		holdList(t, past)
		if b, code := der.Print(past); code != api.ErrLarge || b != nil || !der.Shaped(past) {
			t.Errorf("8.3: Print of one more: %d bytes, %d", len(b), int(code))
		}
		holdNotShaped(t, "too long too", append(past, api.Tlv{Tag: 5})...)
		past[0].Kids++
		holdNotShaped(t, "too long too", past...)
	}
	for _, n := range []int{most - 3, most - 1, most, most + 1, 1 << 17, 1<<24 - 1, 1 << 24} {
		holdList(t, []api.Tlv{octets(n)})
	}
	wide := slices.Repeat([]api.Tlv{{Tag: 5}}, most)
	for _, kids := range []int{62, 63, 64, 127, 128, 32765, 32766, 32767, 32768, most - 1} {
		wide[0] = api.Tlv{Tag: 0x30, Kids: kids}
		holdList(t, wide[:kids+1])
	}
	long := octets(1 << 20)
	many := append([]api.Tlv{{Tag: 0x30, Kids: 1 << 16}}, slices.Repeat([]api.Tlv{long}, 1<<16)...)
	if b, code := der.Print(many); code != api.ErrLarge || b != nil || !der.Shaped(many) {
		t.Errorf("8.3: Print of 2^36 bytes: %d bytes, %d", len(b), int(code))
	}
}

func TestNotShaped(t *testing.T) {
	null, seq := api.Tlv{Tag: 5}, func(kids int) api.Tlv { return api.Tlv{Tag: 0x30, Kids: kids} }
	holdNotShaped(t, "no element")
	holdNotShaped(t, "two elements", null, null)
	holdNotShaped(t, "two elements", seq(0), null)
	holdNotShaped(t, "two elements", seq(1), null, null)
	holdNotShaped(t, "two elements", seq(1), seq(0), null)
	holdNotShaped(t, "two elements", seq(1), seq(1), null, seq(0))
	holdNotShaped(t, "too few behind a constructed one", seq(1))
	holdNotShaped(t, "too few behind a constructed one", seq(2), null)
	holdNotShaped(t, "too few behind a constructed one", seq(2), seq(1), null)
	holdNotShaped(t, "too few behind a constructed one", seq(1), seq(1), seq(1))
	holdNotShaped(t, "too few behind a constructed one", seq(2), null, seq(1))
	for _, kids := range []int{-1, -2, math.MinInt, math.MinInt + 1} {
		holdNotShaped(t, "Kids below 0", seq(kids))
		holdNotShaped(t, "Kids below 0", seq(kids), null)
		holdNotShaped(t, "Kids below 0", seq(1), seq(kids))
		holdNotShaped(t, "Kids below 0, and as many too many", seq(1-kids), seq(kids), null)
		holdNotShaped(t, "Kids of a primitive one", api.Tlv{Tag: 5, Kids: kids})
	}
	for _, kids := range []int{3, 1 << 31, 1 << 32, 1<<32 + 1, 1 << 62, math.MaxInt} {
		holdNotShaped(t, "too few", seq(kids))
		holdNotShaped(t, "too few", seq(kids), null, null)
		holdNotShaped(t, "too few", seq(2), seq(kids), null, null)
		holdNotShaped(t, "too few", seq(kids), seq(kids), seq(kids))
		holdNotShaped(t, "Kids of a primitive one", api.Tlv{Tag: 5, Kids: kids}, null, null, null)
	}
	holdNotShaped(t, "Kids of a primitive one", api.Tlv{Tag: 4, Kids: 1}, null)
	holdNotShaped(t, "Kids of a primitive one that there are not", api.Tlv{Tag: 4, Kids: 1})
	holdNotShaped(t, "Data of a constructed one", api.Tlv{Tag: 0x30, Data: []byte{5, 0}})
	holdNotShaped(t, "Data of a constructed one", api.Tlv{Tag: 0x30, Data: []byte{5, 0}, Kids: 1}, null)
	holdNotShaped(t, "Data of a constructed one", seq(1), api.Tlv{Tag: 0xa0, Data: []byte{0}})
	for _, v := range [][]api.Tlv{{null}, {seq(0)}, {seq(1), null}, {seq(2), seq(1), null, null}, {seq(2), null, seq(1), null}, {{Tag: 0x30, Data: []byte{}}}, {{Tag: 4}}, {{Tag: 0}}} {
		if !der.Shaped(v) {
			t.Errorf("8.2: not Shaped: %+v", v)
		}
		holdList(t, v)
	}
}

// Numbers about every edge, with noughts ahead.
func TestNumbers(t *testing.T) {
	holdBytes(t, nil)
	for length := range 6 {
		for _, first := range []byte{0, 1, 0x7f, 0x80, 0x81, 0xfe, 0xff} {
			for _, rest := range []byte{0, 1, 0x7f, 0x80, 0xff} {
				b := append([]byte{first}, slices.Repeat([]byte{rest}, length)...)
				for noughts := range 4 {
					holdBytes(t, append(make([]byte, noughts), b...))
				}
				holdAlone(t, api.Tlv{Tag: 2, Data: b})
				holdAlone(t, api.Tlv{Tag: 2, Data: append([]byte{0}, b...)})
				for _, x := range []api.Tlv{{Tag: 2, Data: b, Kids: 1}, {Tag: 2, Data: b, Kids: -1}, {Tag: 0x22, Data: b}, {Tag: 0x22, Data: b, Kids: 1}, {Tag: 3, Data: b}, {Tag: 4, Data: b}, {Tag: 0x82, Data: b}, {Tag: 258, Data: b}, {Tag: 0x30}, {}} {
					holdAlone(t, x)
					if got, ok := der.Uint(x); ok || got != nil {
						t.Errorf("8.5: Uint(%+v) = %x, %v", x, got, ok)
					}
				}
			}
		}
	}
	for _, n := range []int{100, 127, 128, 255, 256, 65531, 65532, 65533, 70000} {
		holdBytes(t, make([]byte, n))
		for _, x := range []byte{0x7f, 0x80} {
			holdBytes(t, append(make([]byte, 3), slices.Repeat([]byte{x}, n)...))
		}
	}
}

// identifiers: numbers that can stand and such that cannot, at each place.
func TestIdentifiers(t *testing.T) {
	edges := strings.Fields("0 1 2 3 9 10 38 39 40 41 47 48 79 80 81 119 120 127 128 129 175 176 255 256 16383 16384 2097151 2097152 268435455 268435456 2147483567 2147483568 2147483599 2147483600 2147483607 2147483608 2147483639 2147483640 2147483646 2147483647 2147483648 2147483649 4294967295 4294967296 4294967297 9223372036854775808 18446744073709551615 18446744073709551616 18446744073709551618 340282366920938463463374607431768211456")
	for _, a := range edges {
		holdText(t, a)
		for _, b := range edges {
			holdText(t, a+"."+b)
			for _, c := range edges {
				holdText(t, a+"."+b+"."+c)
			}
			holdText(t, a+"."+b+".1."+b)
		}
	}
	for s, contents := range map[string]string{
		"0.0": "00", "0.39": "27", "1.0": "28", "1.39": "4f", "2.0": "50", "2.39": "77", "2.40": "78", "2.47": "7f", "2.48": "8100", "2.2147483647": "888080804f", "2.2147483567": "87ffffff7f", "2.2147483568": "8880808000", "0.0.2147483647": "0087ffffff7f", "0.39.127.128": "277f8100", "1.3.101.112": "2b6570", "2.5.4.3": "550403", "1.2.840.10045.2.1": "2a8648ce3d0201",
	} {
		if x, ok := der.OfOid(s); !ok || !sameTlv(x, primitive(6, contents)) {
			t.Errorf("8.6: OfOid(%s) = %+v, %v", s, x, ok)
		}
		if got, ok := der.Oid(primitive(6, contents)); !ok || got != s {
			t.Errorf("8.6: Oid of %s = %q, %v", contents, got, ok)
		}
		holdText(t, s)
	}
	for _, contents := range []string{"8880808050", "88808080ff7f", "2a8880808000", "2a888080800001", "2affffffff7f", "ffffffffffffffffffff7f", "2a81808080808080808000", "2a8280808080808080808000", "818080808080808080808080802a", "81808080808080808000", "9080808000", "2a01908080808000", "2a" + strings.Repeat("ff", 30) + "7f"} {
		x := primitive(6, contents)
		if got, ok := der.Oid(x); ok || got != "" || !der.Shaped([]api.Tlv{x}) {
			t.Errorf("8.6: Oid of %s = %q, %v", contents, got, ok)
		}
		holdAlone(t, x)
	}
	for _, x := range []api.Tlv{{Tag: 6, Data: []byte{0x2a}, Kids: 1}, {Tag: 6, Data: []byte{0x2a}, Kids: -1}, {Tag: 0x26, Data: []byte{0x2a}}, {Tag: 2, Data: []byte{0x2a}}, {Tag: 13, Data: []byte{0x2a}}, {Tag: 0x86, Data: []byte{0x2a}}, {Tag: 262, Data: []byte{0x2a}}, {Tag: 6}, {}} {
		if got, ok := der.Oid(x); ok || got != "" {
			t.Errorf("8.6: Oid(%+v) = %q, %v", x, got, ok)
		}
		holdAlone(t, x)
	}
}

// Texts that are no identifier's.
func TestNoIdentifiers(t *testing.T) {
	for _, s := range []string{
		"", ".", "..", "0", "1", "2", "3", "1.", ".1", "1.2.", ".1.2", "1..2", "1.2..3", "1.2.3.", "..1.2", "1.2..",
		"01.2", "00.2", "1.02", "1.00", "1.2.00", "1.2.01", "2.0999", "02.999", "1.2.0x1",
		"+1.2", "1.+2", "-1.2", "1.-2", "-0.2", "1.-0", "1.2.-3", " 1.2", "1.2 ", "1 .2", "1. 2", "1.2\n", "\n1.2", "1.2\t", "1.2\x00", "1,2", "1.2,3", "1.2.x", "a.b", "1.2a", "1.a2", "1_0.2", "2.1_0", "1.0x2", "1.0b1", "1.0o7", "1e0.2", "1.2e0", "2.1e3", "1.\u0662", "1.\uff12", "1\uff0e2", "{1.2}", "1/2", "1:2", "1.2;", "\xff", "1.\xff", "1.2.\x80",
		"3.0", "3.1", "4.5", "9.9", "10.1", "0.40", "1.40", "0.41", "1.80", "0.999", "2147483647.1", "2147483648.1", "2.2147483648", "1.2.2147483648", "1.2.4294967296", "1.2.4294967299", "1.2.18446744073709551616", "1.2.18446744073709551619", "18446744073709551617.2", "18446744073709551618.999", "1.18446744073709551618", "1.2." + strings.Repeat("9", 5000), "1.2." + strings.Repeat("0", 5000), strings.Repeat("1", 5000), strings.Repeat(".", 5000), strings.Repeat("1.", 5000),
	} {
		if x, ok := der.OfOid(s); ok || !sameTlv(x, api.Tlv{}) || x.Data != nil {
			t.Errorf("8.6: OfOid(%.60q) = %+v, %v", s, x, ok)
		}
		holdText(t, s)
	}
	// Every byte at every place of some texts, put in, put instead, and left out.
	for _, s := range []string{"1.2.840.0", "2.999", "0.39.127"} {
		for at := range len(s) + 1 {
			for b := range 256 {
				sign := string([]byte{byte(b)})
				holdText(t, s[:at]+sign+s[at:])
				if at < len(s) {
					holdText(t, s[:at]+sign+s[at+1:])
				}
			}
			if at < len(s) {
				holdText(t, s[:at]+s[at+1:])
			}
		}
	}
	long := "2.999" + strings.Repeat(".2147483647.0.16384", 3000)
	holdText(t, long)
	holdText(t, long+".2147483648")
	holdText(t, long+".x")
}

// drawnContents: right ones of a primitive tag.
func drawnContents(r *rand.Rand, tag int) []byte {
	b := make([]byte, []int{0, 1, 1, 2, 3, r.Intn(20), 126 + r.Intn(4), 254 + r.Intn(4)}[r.Intn(8)])
	for i := range b {
		b[i] = []byte{0, 1, 0x7f, 0x80, 0xff, byte(r.Intn(256))}[r.Intn(6)]
	}
	switch tag {
	case 1:
		return []byte{byte(-r.Intn(2))}
	case 2:
		return twos(number(b))
	case 3:
		unused := r.Intn(8)
		if len(b) == 0 {
			return []byte{0}
		}
		b[len(b)-1] = b[len(b)-1] >> unused << unused
		return append([]byte{byte(unused)}, b...)
	case 5:
		return nil
	case 6:
		b = append(b, 1)
		for i := range b {
			if b[i] == 0x80 && (i == 0 || b[i-1] < 0x80) {
				b[i]++
			}
		}
	}
	return b
}

// drawn: a well shaped list, as deep as that at most.
func drawn(r *rand.Rand, depth int) []api.Tlv {
	if depth == 0 || r.Intn(3) == 0 {
		tag := []int{0, 1, 2, 2, 3, 4, 5, 6, 6, 0x0c, 0x13, 0x1e, 0x40, 0x80, 0x82, 0x9e, 0xc6}[r.Intn(17)]
		return []api.Tlv{{Tag: tag, Data: drawnContents(r, tag)}}
	}
	v := []api.Tlv{{Tag: []int{0x20, 0x24, 0x30, 0x30, 0x31, 0x3e, 0x61, 0xa0, 0xa2, 0xe6}[r.Intn(10)]}}
	v[0].Kids = []int{0, 1, 1, 2, 3, r.Intn(6)}[r.Intn(6)]
	for range v[0].Kids {
		v = append(v, drawn(r, depth-1)...)
	}
	return v
}

// There and back of lists of many shapes, and of what a change makes of them and of their bytes.
func TestThereAndBack(t *testing.T) {
	r := rand.New(rand.NewSource(1))
	for range 15000 {
		v := drawn(r, 1+r.Intn(6))
		if !der.Shaped(v) {
			t.Fatalf("8.2: not Shaped: %+v", v)
		}
		holdList(t, v)
		for _, x := range v {
			holdAlone(t, x)
		}
		b, code := der.Print(v)
		if code != api.OK {
			continue
		}
		holdTaken(t, b, v...)
		holdParse(t, b[:r.Intn(len(b))])
		for range 4 {
			changed := slices.Clone(b)
			changed[r.Intn(len(b))] ^= 1 << r.Intn(8)
			holdParse(t, changed)
			at := r.Intn(len(b) + 1)
			holdParse(t, slices.Insert(slices.Clone(b), at, byte(r.Intn(256))))
			holdParse(t, slices.Delete(slices.Clone(b), at/2, at/2+1))
		}
		holdList(t, spoilt(r, v))
	}
}

// spoilt: a list with one thing changed, well shaped or not.
func spoilt(r *rand.Rand, v []api.Tlv) []api.Tlv {
	out := slices.Clone(v)
	i := r.Intn(len(out))
	x := &out[i]
	switch r.Intn(7) {
	case 0:
		x.Tag ^= 1 << r.Intn(9)
	case 1:
		x.Kids += r.Intn(5) - 2
	case 2:
		x.Data = append(slices.Clone(x.Data), byte(r.Intn(256)))
	case 3:
		x.Data = x.Data[:len(x.Data)/2]
	case 4:
		out = slices.Delete(out, i, i+1)
	case 5:
		out = slices.Insert(out, i, v[r.Intn(len(v))])
	case 6:
		if len(x.Data) > 0 {
			x.Data = slices.Clone(x.Data)
			x.Data[r.Intn(len(x.Data))] ^= 1 << r.Intn(8)
		}
	}
	return out
}

func FuzzCalls(f *testing.F) {
	for _, text := range []string{"30 05 02 01 05 05 00", "30 06 03 02 07 80 05 00", "06 09 2a 86 48 86 f7 0d 01 01 01", "a0 80 00 00", "04 81 80"} {
		f.Add(unhex(text), "1.2.840", int64(1))
	}
	f.Add(nested(33), "2.2147483647", int64(2))
	f.Fuzz(func(t *testing.T, b []byte, text string, seed int64) {
		r := rand.New(rand.NewSource(seed))
		holdParse(t, b)
		holdBytes(t, b)
		holdText(t, text)
		for _, tag := range []int{2, 6, int(seed)} {
			holdAlone(t, api.Tlv{Tag: tag, Data: b})
		}
		if v, code, _ := der.Parse(b); code == api.OK && len(v) < 1000 {
			holdList(t, v)
			holdList(t, spoilt(r, v))
		}
		holdList(t, spoilt(r, append(drawn(r, 3), api.Tlv{Tag: int(int16(seed)), Data: b})))
	})
}
