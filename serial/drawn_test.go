package serial_test

import (
	"fmt"
	"math/rand"
	"slices"
	"strings"
	"testing"

	"signet/api"
	"signet/serial"
)

func pick[T any](r *rand.Rand, of []T) T { return of[r.Intn(len(of))] }

// drawnText: well formed UTF-8, of any runes.
func drawnText(r *rand.Rand) string {
	var b strings.Builder
	for range r.Intn(6) {
		switch r.Intn(4) {
		case 0:
			b.WriteRune(pick(r, []rune{'"', '\\', '/', 0, 31, 127, 0x2028, 0xfffd, 0x10ffff, 0xd7ff, 0xe000, 0xffff, 0x10000}))
		case 1:
			b.WriteRune(rune(r.Intn(0xd800)))
		case 2:
			b.WriteRune(rune(0xe000 + r.Intn(0x110000-0xe000)))
		default:
			b.WriteString(pick(r, []string{"a", "k", "payload", "eyJ", "=", " "}))
		}
	}
	return b.String()
}

// drawnPart: a text without a dot.
func drawnPart(r *rand.Rand) string { return strings.ReplaceAll(drawnText(r), ".", "") }

func blanks(r *rand.Rand) string {
	return strings.Repeat(pick(r, []string{"", "", " ", "\t", "\n", "\r"}), r.Intn(3))
}

// spelled: a string of JSON in one of its spellings.
func spelled(r *rand.Rand, s string) string {
	var b strings.Builder
	b.WriteByte('"')
	for _, c := range s {
		switch {
		case c >= 0x10000 && r.Intn(2) == 0:
			fmt.Fprintf(&b, `\u%04x\u%04X`, 0xd800+(c-0x10000)>>10, 0xdc00+(c-0x10000)&0x3ff)
		case c < 0x10000 && r.Intn(3) == 0, c < 0x20, c == '"', c == '\\':
			fmt.Fprintf(&b, pick(r, []string{`\u%04x`, `\u%04X`}), c)
		default:
			b.WriteRune(c)
		}
	}
	b.WriteByte('"')
	return b.String()
}

// respelled: a text of the same value, the members of its objects in any order.
func respelled(r *rand.Rand, x tree) string {
	switch x.kind() {
	case api.String:
		return spelled(r, x.text())
	case api.List, api.Object:
	default:
		return map[api.Kind]string{api.Null: "null", api.False: "false", api.True: "true", api.Number: x.nodes[0].Text}[x.kind()]
	}
	var parts []string
	for _, kid := range x.kids {
		text := blanks(r) + respelled(r, kid) + blanks(r)
		if x.kind() == api.Object {
			text = blanks(r) + spelled(r, kid.nodes[0].Key) + blanks(r) + ":" + text
		}
		parts = append(parts, text)
	}
	if x.kind() == api.Object {
		r.Shuffle(len(parts), func(i, j int) { parts[i], parts[j] = parts[j], parts[i] })
		return blanks(r) + "{" + strings.Join(parts, ",") + "}" + blanks(r)
	}
	return blanks(r) + "[" + strings.Join(parts, ",") + "]" + blanks(r)
}

// drawnTokens: some of one payload.
func drawnTokens(r *rand.Rand) []string {
	payload := drawnPart(r)
	var l []string
	for range 1 + r.Intn(16) {
		l = append(l, drawnPart(r)+"."+payload+"."+drawnPart(r))
	}
	return l
}

// Drawn tokens come back from every spelling of their form, in their order.
func TestDrawnTokens(t *testing.T) {
	t.Parallel()
	r := rand.New(rand.NewSource(1))
	for range 2000 {
		l := drawnTokens(r)
		text := mustGeneral(t, "drawn", api.OK, l...)
		mustTokens(t, "respelled", respelled(r, grown(text)), api.OK, l...)
		mustTokens(t, "respelled", respelled(r, grown(flattened(l[0]))), api.OK, l[0])
	}
}

// spoilt: a value with one thing in it another one.
func spoilt(r *rand.Rand, x tree) string {
	text := respelled(r, x)
	words := []string{`"payload"`, `"signatures"`, `"protected"`, `"signature"`, `"header"`, `""`, `"a.b"`, `null`, `1`, `[]`, `{}`, `[{"protected":"","signature":""}]`}
	var places []int
	shortest := respelledShort(x)
	for i := range shortest {
		if strings.IndexByte(`{}[]":,`, shortest[i]) >= 0 {
			places = append(places, i)
		}
	}
	switch r.Intn(5) {
	case 0:
		old, with := pick(r, words[:5]), pick(r, words)
		return strings.Replace(shortest, old, with, 1+r.Intn(2))
	case 1:
		return strings.Replace(shortest, `":"`, `":"`+pick(r, []string{".", `\u002e`, `\"`, "é"}), 1)
	case 2:
		return strings.Replace(shortest, `{`, `{`+pick(r, words)+`:`+pick(r, words)+`,`, 1+r.Intn(2))
	case 3:
		at := pick(r, places)
		return shortest[:at] + pick(r, words) + shortest[at+1:]
	}
	return text
}

func respelledShort(x tree) string {
	switch x.kind() {
	case api.String:
		return quoted(x.text())
	case api.List, api.Object:
	default:
		return map[api.Kind]string{api.Null: "null", api.False: "false", api.True: "true", api.Number: x.nodes[0].Text}[x.kind()]
	}
	var parts []string
	for _, kid := range x.kids {
		text := respelledShort(kid)
		if x.kind() == api.Object {
			text = quoted(kid.nodes[0].Key) + ":" + text
		}
		parts = append(parts, text)
	}
	if x.kind() == api.Object {
		return "{" + strings.Join(parts, ",") + "}"
	}
	return "[" + strings.Join(parts, ",") + "]"
}

// Forms with one thing another one.
func TestSpoilt(t *testing.T) {
	t.Parallel()
	r := rand.New(rand.NewSource(2))
	met := map[api.Errno]int{}
	for range 6000 {
		l := drawnTokens(r)
		text := generalText(l...)
		if r.Intn(2) == 0 {
			text = flattened(l[0])
		}
		_, code := holdTokens(t, spoilt(r, grown(text)))
		met[code]++
	}
	for _, code := range []api.Errno{api.OK, api.ErrSerial, api.ErrJson, api.ErrTwice} {
		if met[code] < 50 {
			t.Fatalf("%d of %d: %v", met[code], int(code), met)
		}
	}
}

// Lists of tokens with one of them another one.
func TestSpoiltTokens(t *testing.T) {
	t.Parallel()
	r := rand.New(rand.NewSource(3))
	met := map[api.Errno]int{}
	for range 4000 {
		l := drawnTokens(r)
		at := r.Intn(len(l))
		switch r.Intn(6) {
		case 0:
			l[at] = strings.Replace(l[at], ".", drawnPart(r), 1)
		case 1:
			l[at] += "."
		case 2:
			l[at] = drawnPart(r) + "." + drawnPart(r) + "." + drawnPart(r)
		case 3:
			from := r.Intn(len(l[at]))
			l[at] = l[at][:from] + "\x80" + l[at][from:]
		case 4:
			l = append(l, l...)
		}
		_, code := holdGeneral(t, l)
		met[code]++
	}
	if met[api.OK] < 500 || met[api.ErrSerial] < 500 || len(met) != 2 {
		t.Fatalf("%v", met)
	}
}

// bench: hands whose keys stand in the set, and some whose do not, or who sign with another secret.
func bench() (right, wrong []hand, keys string) {
	for i, kid := range []string{"a", "b", "c", "", "é", "B", "\U00010000", "\uffff"} {
		right = append(right, secretHand(i, kid))
		wrong = append(wrong, secretHand(100+i, kid))
	}
	right = append(right, hand{rows[11], "ed", signers()["EdDSA"]})
	wrong = append(wrong, secretHand(1, "ed"), secretHand(1, "nobody"))
	return right, wrong, setOf(right...)
}

// 21.5: just the kids of those that sign rightly count, once each: whatever the order, however often, whoever else signs.
func TestEnough(t *testing.T) {
	t.Parallel()
	r := rand.New(rand.NewSource(4))
	right, wrong, keys := bench()
	reached := map[int]int{}
	for range 40 {
		var tokens []string
		var kids []string
		for range 1 + r.Intn(16) {
			if r.Intn(3) == 0 {
				tokens = append(tokens, pick(r, wrong).token(body))
				continue
			}
			h := pick(r, right)
			tokens, kids = append(tokens, h.token(body)), append(kids, h.kid)
		}
		slices.Sort(kids)
		kids = slices.Compact(kids)
		reached[len(kids)]++
		text := generalText(tokens...)
		for _, want := range []int{1, max(1, len(kids)), min(16, len(kids)+1)} {
			ask := func(what, text string) {
				t.Helper()
				if want <= len(kids) {
					mustSay(t, mustVerify(t, what, text, keys, asked(), 1500, want, api.OK, kids...))
				} else {
					mustVerify(t, what, text, keys, asked(), 1500, want, api.ErrFew)
				}
			}
			ask("drawn", text)
			other := slices.Clone(tokens)
			r.Shuffle(len(other), func(i, j int) { other[i], other[j] = other[j], other[i] })
			ask("in another order", respelled(r, grown(generalText(other...))))
			if len(tokens) < 16 {
				ask("one twice", generalText(slices.Insert(slices.Clone(tokens), r.Intn(len(tokens)), pick(r, tokens))...))
				ask("one that does not hold", generalText(slices.Insert(slices.Clone(tokens), r.Intn(len(tokens)+1), pick(r, wrong).token(body))...))
			}
		}
	}
	if len(reached) < 7 {
		t.Fatalf("%v", reached)
	}
}

// A longer text that Tokens refuses is refused so, whoever signs.
func TestOneTooMany(t *testing.T) {
	t.Parallel()
	a := secretHand(0, "a")
	tokens := slices.Repeat([]string{a.token(body)}, 16)
	mustVerify(t, "sixteen", generalText(tokens...), setOf(a), asked(), 1500, 1, api.OK, "a")
	mustVerify(t, "seventeen", generalText(append(tokens, tokens[0])...), setOf(a), asked(), 1500, 1, api.ErrSerial)
	long := strings.Repeat("s", 262144-len(generalText(tokens[0], "."+strings.Split(tokens[0], ".")[1]+".")))
	further := "." + strings.Split(tokens[0], ".")[1] + "." + long
	mustVerify(t, "a further one, at MaxKeys", generalText(tokens[0], further), setOf(a), asked(), 1500, 1, api.OK, "a")
	mustVerify(t, "a further one, past MaxKeys", generalText(tokens[0], further+"s"), setOf(a), asked(), 1500, 1, api.ErrLarge)
	if _, _, code := serial.Verify(generalText(tokens[0], further), setOf(a), asked(), 1500, 2); code != api.ErrFew {
		t.Fatalf("21.5: %d", int(code))
	}
}

// The key set's other keys, and their order, do not count.
func TestOtherKeys(t *testing.T) {
	t.Parallel()
	r := rand.New(rand.NewSource(5))
	right, wrong, _ := bench()
	var tokens, kids []string
	for _, h := range right[:4] {
		tokens, kids = append(tokens, h.token(body)), append(kids, h.kid)
	}
	slices.Sort(kids)
	for range 40 {
		var entries []string
		for _, h := range right[:4] {
			entries = append(entries, h.entry())
		}
		for range r.Intn(6) {
			entries = append(entries, pick(r, []string{`{"kty":"x"}`, `{"kty":"oct","k":"="}`, `{"kty":"RSA","kid":"z","d":1}`, secretHand(9, "other").entry(), wrong[len(wrong)-1].entry()}))
		}
		r.Shuffle(len(entries), func(i, j int) { entries[i], entries[j] = entries[j], entries[i] })
		mustVerify(t, "other keys", generalText(tokens...), respelled(r, grown(set(entries...))), asked(), 1500, 4, api.OK, kids...)
		mustVerify(t, "a key less", generalText(tokens...), set(slices.DeleteFunc(entries, func(s string) bool { return s == right[1].entry() })...), asked(), 1500, 4, api.ErrFew)
	}
}
