package serial_test

import (
	"slices"
	"strings"
	"testing"

	"signet/api"
	"signet/serial"
)

// Just two dots, in each of them.
func TestGeneralDots(t *testing.T) {
	t.Parallel()
	for _, token := range []string{"", "a", ".", "a.", ".p", "a.p", "...", "a.p.s.", ".a.p.s", "a.p.s.t", "a..p.s", strings.Repeat(".", 70000), "a·p·s", "a。p。s"} {
		mustGeneral(t, "not two dots", api.ErrSerial, token)
		mustGeneral(t, "not two dots, ahead", api.ErrSerial, token, "a.p.s")
		mustGeneral(t, "not two dots, behind", api.ErrSerial, "a.p.s", token)
		mustGeneral(t, "not two dots, behind one without payload", api.ErrSerial, "..", token)
		mustGeneral(t, "not two dots, last", api.ErrSerial, append(slices.Repeat([]string{"a.p.s"}, 15), token)...)
		mustGeneral(t, "not two dots, twice", api.ErrSerial, token, token)
	}
	mustGeneral(t, "nothing but dots", api.OK, "..")
	mustGeneral(t, "nothing but dots", api.OK, "..", "a..", "..s", "..")
}

// One payload, byte by byte.
func TestGeneralPayloads(t *testing.T) {
	t.Parallel()
	for _, x := range []struct{ a, b string }{{"p", "P"}, {"p", ""}, {"", "p"}, {"p", "p "}, {"p", "pp"}, {"é", "e\u0301"}, {"A", "A="}, {"a/b", "a_b"}, {"\x00", ""}} {
		first, second := "h."+x.a+".s", "h."+x.b+".s"
		mustGeneral(t, "two payloads", api.ErrSerial, first, second)
		mustGeneral(t, "two payloads", api.ErrSerial, first, first, second)
		mustGeneral(t, "two payloads", api.ErrSerial, second, first, first)
		mustGeneral(t, "two payloads, at the end", api.ErrSerial, append(slices.Repeat([]string{first}, 15), second)...)
		mustGeneral(t, "one payload", api.OK, first, first)
		mustGeneral(t, "one payload", api.OK, second, "x."+x.b+".y", second)
	}
}

// Well formed UTF-8, in every part; what only a JSON text spells otherwise is taken.
func TestGeneralUtf8(t *testing.T) {
	t.Parallel()
	for _, bad := range []string{"\xff", "\xc0\x80", "\xe2\x82", "\x80", "\xed\xa0\x80", "\xf4\x90\x80\x80", "a\xc3", "\xc3"} {
		for _, token := range []string{bad + ".p.s", "h." + bad + ".s", "h.p." + bad} {
			mustGeneral(t, "no UTF-8", api.ErrSerial, token)
			mustGeneral(t, "no UTF-8, behind", api.ErrSerial, "h.p.s", token)
			mustGeneral(t, "no UTF-8, twice", api.ErrSerial, token, token)
		}
	}
	// A sequence that a dot cuts is none.
	mustGeneral(t, "a dot in a sequence", api.ErrSerial, "\xc3.\xa9.")
	var all strings.Builder
	for c := range rune(0x500) {
		all.WriteString(strings.ReplaceAll(string(c), ".", ""))
	}
	text := all.String() + "\u2028\ufffd\uffff\U00010000\U0010ffff"
	mustGeneral(t, "any signs", api.OK, text+"."+text+"."+text, "."+text+".")
	if got := mustGeneral(t, "escapes", api.OK, "\"\\/\b.\f\n\r\t\v.\x00\x1f\x7fé"); got != `{"payload":"\f\n\r\t\u000b","signatures":[{"protected":"\"\\/\b","signature":"\u0000\u001f`+"\x7fé"+`"}]}` {
		t.Fatalf("21.2: %s", got)
	}
}

// The text may have MaxKeys bytes; one more, and it is too large. How long the tokens are does not count, but what is spelled.
func TestGeneralMaxKeys(t *testing.T) {
	t.Parallel()
	const most = 262144
	for _, n := range []int{1, 16} {
		for _, sign := range []string{"a", "\"", "\n", "\x01", "é", "\U0001f600"} {
			for i := range 3 {
				parts := []string{"h", "p", "s"}
				tokens := slices.Repeat([]string{"h.p.s"}, n)
				spelled := len(quoted(sign)) - 2
				room := most - len(generalText(tokens...))
				more := strings.Repeat(sign, room/spelled)
				parts[i] += more
				for j := range tokens {
					if j == n-1 || i == 1 {
						tokens[j] = strings.Join(parts, ".")
					}
				}
				fill := "x" + strings.Repeat("x", room%spelled)
				tokens[0] = fill[1:] + tokens[0]
				if text := mustGeneral(t, "at MaxKeys", api.OK, tokens...); len(text) != most {
					t.Fatalf("21.2: %d bytes", len(text))
				}
				tokens[0] = "x" + tokens[0]
				mustGeneral(t, "past MaxKeys", api.ErrLarge, tokens...)
			}
		}
	}
	long := strings.Repeat("a", 300000)
	mustGeneral(t, "far past it", api.ErrLarge, long+"..")
	mustGeneral(t, "far past it", api.ErrLarge, "."+long+".")
	mustGeneral(t, "together past it", api.ErrLarge, slices.Repeat([]string{".." + long[:20000]}, 16)...)
	// What is no form at all is told ahead of its length.
	mustGeneral(t, "large, and a dot too many", api.ErrSerial, long+"..", long+"...")
	mustGeneral(t, "large, and no UTF-8", api.ErrSerial, long+"..", long+"..\xff")
	mustGeneral(t, "large, and two payloads", api.ErrSerial, long+"..", long+".p.")
	mustGeneral(t, "large, and seventeen", api.ErrSerial, slices.Repeat([]string{long + ".."}, 17)...)
}

// Tokens longer than MaxToken come back too.
func TestGeneralLongTokens(t *testing.T) {
	t.Parallel()
	for _, n := range []int{65535, 65536, 65537, 131072} {
		mustGeneral(t, "a long token", api.OK, strings.Repeat("a", n-2)+"..")
		mustGeneral(t, "long tokens of one payload", api.OK, slices.Repeat([]string{"h." + strings.Repeat("a", n-4) + ".s"}, 16)...)
	}
}

// 21.4: a flattened form is shorter than the general one of its token, which then may have no room.
func TestNoRoom(t *testing.T) {
	t.Parallel()
	over := len(generalText("..")) - len(flattened(".."))
	for short := range over + 1 {
		text := flattened(".." + strings.Repeat("a", 262144-short-len(flattened(".."))))
		l, code := holdTokens(t, text)
		if code != api.OK {
			t.Fatalf("21.1: %d", int(code))
		}
		back, code := serial.General(l)
		if (code == api.OK) != (short == over) || code != api.OK && code != api.ErrLarge || code == api.OK && len(back) != 262144 {
			t.Fatalf("21.4: %d bytes below MaxKeys: %d", short, int(code))
		}
	}
}
