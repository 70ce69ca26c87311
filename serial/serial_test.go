package serial_test

import (
	"fmt"
	"slices"
	"strings"
	"testing"

	"signet/api"
)

// The chapter's examples.
func TestExamples(t *testing.T) {
	t.Parallel()
	mustTokens(t, "example", `{"payload":"cA","protected":"aA","signature":""}`, api.OK, "aA.cA.")
	mustTokens(t, "example", `{"signatures":[{"signature":"cw","protected":"aA"},{"protected":"","signature":"eA"}],"payload":""}`, api.OK, "aA..cw", "..eA")
	for _, text := range []string{
		`{"payload":"","signatures":[]}`, `{"payload":"a.b","protected":"","signature":""}`, `[]`, `{"payload":1,"protected":"","signature":""}`, `{"payload":1,"signatures":[{"protected":"","signature":""}]}`,
		`{"payload":"","protected":"","signature":"","header":{}}`, `{"payload":"","signatures":[{"protected":"","signature":"","header":{"kid":"k"}}]}`, `{"payload":"","signatures":[{"protected":"","signature":""}],"header":{}}`,
		`{"payload":"","protected":"","signatures":[{"protected":"","signature":""}]}`, `{"payload":"","protected":"","signature":"","signatures":[{"protected":"","signature":""}]}`, generalOf("", pairs(17)...),
	} {
		mustTokens(t, "example", text, api.ErrSerial)
	}
	mustTokens(t, "example", `{"payload":"","payload":"","protected":"","signature":""}`, api.ErrTwice)
	mustGeneral(t, "example", api.ErrSerial, "a.p.s", "b.q.t")
	mustGeneral(t, "example", api.ErrSerial)
	mustGeneral(t, "example", api.ErrSerial, "a.p")
	if text := mustGeneral(t, "words", api.OK, "a.p.s", "b.p.t"); text != `{"payload":"p","signatures":[{"protected":"a","signature":"s"},{"protected":"b","signature":"t"}]}` {
		t.Fatalf("21.2: %s", text)
	}
}

// pair: a signature of a general form, its two strings spelled.
func pair(protected, signature string) string {
	return object(member{"protected", protected}, member{"signature", signature})
}

// pairs: so many, no two alike.
func pairs(n int) []string {
	var l []string
	for i := range n {
		l = append(l, pair(quoted(fmt.Sprint("h", i)), quoted(fmt.Sprint("s", i))))
	}
	return l
}

func generalOf(payload string, pairs ...string) string {
	return object(member{"payload", quoted(payload)}, member{"signatures", "[" + strings.Join(pairs, ",") + "]"})
}

func flattenedOf(protected, payload, signature string) string {
	return object(member{"payload", quoted(payload)}, member{"protected", quoted(protected)}, member{"signature", quoted(signature)})
}

// flattened: the form of one token.
func flattened(token string) string {
	parts := strings.Split(token, ".")
	return flattenedOf(parts[0], parts[1], parts[2])
}

// generalText: the form of tokens of one payload, without the program's help.
func generalText(tokens ...string) string {
	var l []string
	for _, token := range tokens {
		parts := strings.Split(token, ".")
		l = append(l, pair(quoted(parts[0]), quoted(parts[2])))
	}
	return generalOf(strings.Split(tokens[0], ".")[1], l...)
}

// orders: all of them.
func orders(l []member) [][]member {
	if len(l) == 0 {
		return [][]member{nil}
	}
	var out [][]member
	for i := range l {
		for _, rest := range orders(slices.Delete(slices.Clone(l), i, i+1)) {
			out = append(out, append([]member{l[i]}, rest...))
		}
	}
	return out
}

// The members stand in any order; just they stand there.
func TestMembers(t *testing.T) {
	t.Parallel()
	flat := []member{{"payload", `"p"`}, {"protected", `"h"`}, {"signature", `"s"`}}
	whole := []member{{"payload", `"p"`}, {"signatures", "[" + strings.Join(pairs(2), ",") + "]"}}
	for _, l := range orders(flat) {
		mustTokens(t, "in another order", object(l...), api.OK, "h.p.s")
	}
	for _, l := range orders(whole) {
		mustTokens(t, "in another order", object(l...), api.OK, "h0.p.s0", "h1.p.s1")
	}
	for _, l := range orders(flat[1:]) {
		mustTokens(t, "a pair in another order", generalOf("p", pairs(1)[0], object(l...)), api.OK, "h0.p.s0", "h.p.s")
	}
	for _, form := range [][]member{flat, whole} {
		for i := range form {
			mustTokens(t, "without "+form[i].name, object(slices.Delete(slices.Clone(form), i, i+1)...), api.ErrSerial)
			for _, name := range []string{"", "Payload", "payload ", "payloads", "header", "Protected", "signatur", "signature\x00", "Signatures"} {
				l := slices.Clone(form)
				l[i].name = name
				mustTokens(t, "another name", object(l...), api.ErrSerial)
				mustTokens(t, "a member more", strings.TrimSuffix(object(form...), "}")+","+quoted(name)+`:""}`, api.ErrSerial)
			}
		}
	}
	for _, x := range []string{`{"protected":""}`, `{"signature":""}`, `{}`, `{"protected":"","signature":"","header":{}}`, `{"protected":"","signature":"","payload":""}`, `{"protected":"","Signature":""}`, `["protected","signature"]`, `["",""]`, `""`, `null`, `[]`, `2`, `true`} {
		for _, l := range [][]string{{x}, {x, pairs(1)[0]}, {pairs(1)[0], x}, append(pairs(15), x)} {
			mustTokens(t, "no signature", generalOf("p", l...), api.ErrSerial)
		}
	}
}

// otherKinds: values that are no strings.
var otherKinds = []string{`null`, `false`, `true`, `0`, `-1.5e9`, `[]`, `[""]`, `{}`, `{"payload":""}`, `["a","b","c"]`}

// All three parts are strings.
func TestKinds(t *testing.T) {
	t.Parallel()
	for _, x := range otherKinds {
		mustTokens(t, "whole", x, api.ErrSerial)
		for i, name := range []string{"payload", "protected", "signature"} {
			l := []member{{"payload", `"p"`}, {"protected", `"h"`}, {"signature", `"s"`}}
			l[i].value = x
			mustTokens(t, name, object(l...), api.ErrSerial)
			if i > 0 {
				mustTokens(t, name+" of a pair", generalOf("p", object(l[1:]...)), api.ErrSerial)
				mustTokens(t, name+" of a pair behind another", generalOf("p", pairs(1)[0], object(l[1:]...)), api.ErrSerial)
			} else {
				mustTokens(t, name+" of many", object(l[0], member{"signatures", "[" + pairs(1)[0] + "]"}), api.ErrSerial)
			}
		}
		if x != `[]` {
			mustTokens(t, "signatures", object(member{"payload", `""`}, member{"signatures", x}), api.ErrSerial)
		}
	}
	mustTokens(t, "one signature without a list", object(member{"payload", `""`}, member{"signatures", pairs(1)[0]}), api.ErrSerial)
	mustTokens(t, "signatures in an object", object(member{"payload", `""`}, member{"signatures", object(member{"a", pairs(1)[0]}, member{"b", pairs(1)[0]})}), api.ErrSerial)
	mustTokens(t, "a list in a list", object(member{"payload", `""`}, member{"signatures", "[[" + pairs(1)[0] + "]]"}), api.ErrSerial)
	mustTokens(t, "a form in a list", "["+flattened("a.b.c")+"]", api.ErrSerial)
	mustTokens(t, "three in a list", `["payload","protected","signature"]`, api.ErrSerial)
	mustTokens(t, "two in a list", `["payload",["signatures"]]`, api.ErrSerial)
	mustTokens(t, "a compact token", quoted("a.b.c"), api.ErrSerial)
	mustTokens(t, "a compact token as it is", "a.b.c", api.ErrJson)
}

// No part has a dot, wherever it stands and however it is spelled; all else may stand in it.
func TestDots(t *testing.T) {
	t.Parallel()
	for _, text := range []string{".", "a.", ".a", "a.b", "..", strings.Repeat("a", 70000) + "."} {
		for i := range 3 {
			parts := []string{"h", "p", "s"}
			parts[i] = text
			for _, spell := range []func(string) string{quoted, func(s string) string { return strings.ReplaceAll(quoted(s), ".", `\u002e`) }, func(s string) string { return strings.ReplaceAll(quoted(s), ".", `\u002E`) }} {
				mustTokens(t, "a dot, flattened", object(member{"payload", spell(parts[1])}, member{"protected", spell(parts[0])}, member{"signature", spell(parts[2])}), api.ErrSerial)
				mustTokens(t, "a dot, general", object(member{"payload", spell(parts[1])}, member{"signatures", "[" + pair(spell(parts[0]), spell(parts[2])) + "]"}), api.ErrSerial)
				if i != 1 {
					mustTokens(t, "a dot, behind another", object(member{"payload", `"p"`}, member{"signatures", "[" + strings.Join(append(pairs(15), pair(spell(parts[0]), spell(parts[2]))), ",") + "]"}), api.ErrSerial)
				}
			}
		}
	}
	for _, text := range []string{"", "!", "=", " ", "\n", "\x00", "\"", "\\", ",", "·", "。", "․", "é", "\U0010ffff", "a\u2028b", "{}", strings.Repeat("A", 70000)} {
		mustTokens(t, "no base64url", flattenedOf(text, text, text), api.OK, text+"."+text+"."+text)
		mustTokens(t, "no base64url", generalOf(text, pair(quoted(text), `""`), pair(`""`, quoted(text))), api.OK, text+"."+text+".", "."+text+"."+text)
	}
}

// 1 to MaxSigs signatures, told in their order; the same one as often as it stands there.
func TestMaxSigs(t *testing.T) {
	t.Parallel()
	for n := 1; n <= 18; n++ {
		var alike, apart, same []string
		for i := range n {
			apart = append(apart, fmt.Sprintf("h%d.p.s%d", i, i))
			alike = append(alike, "h.p.s")
			same = append(same, pair(`"h"`, `"s"`))
		}
		if n > 16 {
			mustTokens(t, "too many", generalOf("p", pairs(n)...), api.ErrSerial)
			mustTokens(t, "too many", generalOf("p", same...), api.ErrSerial)
			mustGeneral(t, "too many", api.ErrSerial, apart...)
			mustGeneral(t, "too many", api.ErrSerial, alike...)
			continue
		}
		mustTokens(t, "so many", generalOf("p", pairs(n)...), api.OK, apart...)
		mustTokens(t, "so many", generalOf("p", same...), api.OK, alike...)
		mustGeneral(t, "so many", api.OK, apart...)
		mustGeneral(t, "so many", api.OK, alike...)
	}
	mustTokens(t, "none", generalOf("p"), api.ErrSerial)
	mustTokens(t, "some ten thousand", generalOf("p", pairs(6000)...), api.ErrSerial)
	mustGeneral(t, "some ten thousand", api.ErrSerial, slices.Repeat([]string{".."}, 10000)...)
}

// What is wrong with the JSON text is told ahead of what is wrong with the form, wherever it stands.
func TestJsonFirst(t *testing.T) {
	t.Parallel()
	for _, x := range []struct {
		text string
		code api.Errno
	}{
		{"", api.ErrJson}, {" ", api.ErrJson}, {"{", api.ErrJson}, {`{"payload":""`, api.ErrJson}, {`{"payload":"",}`, api.ErrJson}, {"\xff", api.ErrJson}, {"nul", api.ErrJson},
		{flattened("a.b.c") + "x", api.ErrJson}, {flattened("a.b.c") + flattened("a.b.c"), api.ErrJson}, {"\ufeff" + flattened("a.b.c"), api.ErrJson},
		{`{"payload":1,"x":"\q"}`, api.ErrEscape}, {`{"payload":"","protected":"\ud800","signature":""}`, api.ErrEscape}, {"{\"payload\":\"\xff\",\"protected\":\"\",\"signature\":\"\"}", api.ErrUtf8}, {"{\"\xff\":\"\"}", api.ErrUtf8},
		{`{"payload":"","protected":"","signature":"","\u0070ayload":""}`, api.ErrTwice}, {generalOf("", pair(`""`, `"","protected":""`)), api.ErrTwice}, {generalOf("", pair(`""`, `"","header":{"a":1,"a":2}`)), api.ErrTwice},
		{strings.Repeat("[", 33), api.ErrDeep}, {`{"payload":` + strings.Repeat("[", 31) + strings.Repeat("]", 31) + "}", api.ErrSerial}, {`{"payload":` + strings.Repeat("[", 32), api.ErrDeep},
		{`[01]`, api.ErrJson},
	} {
		mustTokens(t, "a fault of the text", x.text, x.code)
	}
}

// At MaxKeys bytes a text is taken; one past it, it is too large, whatever it says.
func TestMaxKeys(t *testing.T) {
	t.Parallel()
	for length, code := range map[int]api.Errno{262143: api.OK, 262144: api.OK, 262145: api.ErrLarge, 300000: api.ErrLarge} {
		for _, text := range []string{flattened("a.b.c"), generalOf("b", pair(`"a"`, `"c"`))} {
			wanted := []string{"a.b.c"}[:map[bool]int{true: 1}[code == api.OK]]
			mustTokens(t, "blanks", text+strings.Repeat(" ", length-len(text)), code, wanted...)
			mustTokens(t, "blanks ahead", strings.Repeat("\n", length-len(text))+text, code, wanted...)
		}
		for i := range 3 {
			parts := []string{"h", "p", "s"}
			parts[i] += strings.Repeat("x", length-len(flattened("h.p.s")))
			wanted := []string{strings.Join(parts, ".")}[:map[bool]int{true: 1}[code == api.OK]]
			mustTokens(t, "a long part", flattened(strings.Join(parts, ".")), code, wanted...)
		}
	}
	mustTokens(t, "a text that is none, at MaxKeys", strings.Repeat("x", 262144), api.ErrJson)
	mustTokens(t, "a text that is none, past MaxKeys", strings.Repeat("x", 262145), api.ErrLarge)
	// One payload stands in all sixteen tokens: they are longer, all in all, than the text may be.
	long := strings.Repeat("p", 200000)
	var wanted []string
	for i := range 16 {
		wanted = append(wanted, fmt.Sprintf("h%d.%s.s%d", i, long, i))
	}
	mustTokens(t, "one long payload", generalOf(long, pairs(16)...), api.OK, wanted...)
}
