package idtoken_test

import (
	"fmt"
	"math/rand"
	"slices"
	"strings"
	"testing"

	"signet/api"
	"signet/json"
)

func pick[T any](r *rand.Rand, of []T) T { return of[r.Intn(len(of))] }

// drawnText: well formed UTF-8, of any runes.
func drawnText(r *rand.Rand) string {
	var b strings.Builder
	for range r.Intn(6) {
		switch r.Intn(5) {
		case 0:
			b.WriteRune(rune(r.Intn(32)))
		case 1:
			b.WriteRune(pick(r, []rune{'"', '\\', '/', 127, 0x2028, 0xfffd, 0x10ffff, 0xd7ff, 0xe000, 0xffff, 0x10000}))
		case 2:
			b.WriteRune(rune(r.Intn(0xd800)))
		case 3:
			b.WriteRune(rune(0xe000 + r.Intn(0x110000-0xe000)))
		default:
			b.WriteString(pick(r, []string{"a", "azp", "nonce", "c", " "}))
		}
	}
	return b.String()
}

// drawnTime: most often near an end of all clocks, near 0, or near the greatest age.
func drawnTime(r *rand.Rand) int64 {
	return pick(r, []int64{low, high, 0, low + int64(r.Intn(1300)), high - int64(r.Intn(1300)), high - 1<<31 - int64(r.Intn(1300)), int64(r.Intn(2600)) - 1300, 1<<31 + int64(r.Intn(1300)), int64(r.Uint64())})
}

func blanks(r *rand.Rand) string {
	return strings.Repeat(pick(r, []string{"", "", " ", "\t", "\n", "\r"}), r.Intn(3))
}

// spelled: a string of JSON in one of its spellings.
func spelled(r *rand.Rand, s string) string {
	var b strings.Builder
	b.WriteByte('"')
	for _, c := range s {
		brief := strings.IndexByte("\"\\/\b\f\n\r\t", byte(c))
		switch {
		case c < 128 && brief >= 0 && r.Intn(2) == 0:
			b.WriteString(`\` + `"\/bfnrt`[brief:brief+1])
		case c >= 0x10000 && r.Intn(2) == 0:
			fmt.Fprintf(&b, `\u%04x\u%04X`, 0xd800+(c-0x10000)>>10, 0xdc00+(c-0x10000)&0x3ff)
		case c < 0x10000 && r.Intn(3) == 0, c < 0x20, c == '"', c == '\\':
			fmt.Fprintf(&b, pick(r, []string{`\u%04x`, `\u%04X`}), c)
		default:
			b.WriteRune(c)
		}
	}
	b.WriteByte('"')
	return b.String()
}

// spelledAud: a list of audiences; or the one without a list.
func spelledAud(r *rand.Rand, l []string) string {
	if len(l) == 1 && r.Intn(2) == 0 {
		return spelled(r, l[0])
	}
	var parts []string
	for _, s := range l {
		parts = append(parts, blanks(r)+spelled(r, s)+blanks(r))
	}
	return "[" + blanks(r) + strings.Join(parts, ",") + "]"
}

// memberText: a name, and a value that is spelled already.
type memberText struct{ name, value string }

// others: members of which nothing is asked, no two of one name.
func others(r *rand.Rand) []memberText {
	var out []memberText
	for i := range r.Intn(4) {
		name := pick(r, []string{"Azp", "NONCE", "at_hash ", "c_has", "", "auth-time", "x" + drawnText(r)}) + fmt.Sprint(i)
		out = append(out, memberText{name, pick(r, []string{`null`, `true`, `1.5`, `"a"`, `[]`, `["azp",1]`, `{"azp":1,"nonce":null,"x":{"auth_time":[[]]}}`, `[{"nonce":"c"}]`})})
	}
	return out
}

// text: an object of these members, in any order.
func text(r *rand.Rand, members ...memberText) string {
	r.Shuffle(len(members), func(i, j int) { members[i], members[j] = members[j], members[i] })
	var parts []string
	for _, m := range members {
		parts = append(parts, blanks(r)+spelled(r, m.name)+blanks(r)+":"+blanks(r)+m.value+blanks(r))
	}
	return blanks(r) + "{" + strings.Join(parts, ",") + "}" + blanks(r)
}

// Drawn plans are answered by the code of their first refusal; every code is met.
func TestDrawn(t *testing.T) {
	t.Parallel()
	r := rand.New(rand.NewSource(4))
	met := map[api.Errno]int{}
	for range 15000 {
		p := drawnPlan(r)
		c, a, w, now := p.laid(t, r)
		mustCheck(t, p.code(), c, a, w, now)
		met[p.code()]++
	}
	for _, code := range append(codes[:], api.OK) {
		if met[code] < 500 {
			t.Fatalf("only %d of %d", met[code], int(code))
		}
	}
}

// 22.3: of two questions, the one's answer to a step stays, though all that the step does not name comes from the other.
func TestCrossed(t *testing.T) {
	t.Parallel()
	r := rand.New(rand.NewSource(5))
	for range 5000 {
		one, two := drawnPlan(r), drawnPlan(r)
		c, a, w, now := one.laid(t, r)
		c2, a2, w2, now2 := two.laid(t, r)
		mixed := w
		mixed.HasNonce, mixed.Nonce = w2.HasNonce, w2.Nonce
		crossed := c
		crossed.Value = grafted(c.Value, c2.Value, "nonce")
		want := refusals(c, a, w, now)
		if want[5] = refusals(c2, a2, w2, now2)[5]; holdCheck(t, crossed, a, mixed, now) != plan(want).code() {
			t.Fatalf("22.3: the nonce of %s in %s, %s", short(c2), short(c), short(mixed))
		}
		mixed = w
		mixed.HasAge, mixed.MaxAge, mixed.Leeway = w2.HasAge, w2.MaxAge, w2.Leeway
		crossed.Value = grafted(c.Value, c2.Value, "auth_time")
		want, other := refusals(c, a, w, now), refusals(c2, a2, w2, now2)
		want[0], want[7] = other[0], other[7]
		if holdCheck(t, crossed, a, mixed, now2) != plan(want).code() {
			t.Fatalf("22.3: the age of %s in %s, %s", short(c2), short(c), short(mixed))
		}
		mixed = w2
		mixed.HasAccess, mixed.Access, mixed.HasCode, mixed.Code = w.HasAccess, w.Access, w.HasCode, w.Code
		crossed = c2
		crossed.Value = grafted(grafted(c2.Value, c.Value, "at_hash"), c.Value, "c_hash")
		other[1], other[6] = refusals(c, a, w, now)[1], refusals(c, a, w, now)[6]
		if holdCheck(t, crossed, a, mixed, now2) != plan(other).code() {
			t.Fatalf("22.3: the sums of %s in %s, %s", short(c), short(c2), short(mixed))
		}
	}
}

// grafted: an object without its member of a name, and with that of another object, if it has one.
func grafted(v, from []api.Node, name string) []api.Node {
	out := slices.Clone(v)
	if at := json.Member(out, 0, name); at >= 0 {
		out = slices.Delete(out, at, behind(out, at))
		out[0].Kids--
	}
	if at := json.Member(from, 0, name); at >= 0 {
		out = append(out, from[at:behind(from, at)]...)
		out[0].Kids++
	}
	return out
}

// Two spellings of one value are answered the same.
func TestOneValue(t *testing.T) {
	t.Parallel()
	r := rand.New(rand.NewSource(6))
	for range 5000 {
		p := drawnPlan(r)
		c, a, w, now := p.laid(t, r)
		shortest, code := json.Print(c.Value)
		if code != api.OK {
			t.Fatalf("json.Print(%s) = %d", short(c.Value), int(code))
		}
		mustCheck(t, p.code(), parsed(t, shortest), a, w, now)
	}
}
