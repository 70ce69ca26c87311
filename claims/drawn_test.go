package claims_test

import (
	"fmt"
	"math/rand"
	"slices"
	"strings"
	"testing"

	"signet/api"
	"signet/claims"
	"signet/json"
)

func pick[T any](r *rand.Rand, of []T) T { return of[r.Intn(len(of))] }

// drawnText: well formed UTF-8, of any runes.
func drawnText(r *rand.Rand) string {
	var b strings.Builder
	for range r.Intn(6) {
		switch r.Intn(5) {
		case 0:
			b.WriteRune(rune(r.Intn(32)))
		case 1:
			b.WriteRune(pick(r, []rune{'"', '\\', '/', 127, 0x2028, 0xfffd, 0x10ffff, 0xd7ff, 0xe000, 0xffff, 0x10000}))
		case 2:
			b.WriteRune(rune(r.Intn(0xd800)))
		case 3:
			b.WriteRune(rune(0xe000 + r.Intn(0x110000-0xe000)))
		default:
			b.WriteString(pick(r, []string{"a", "iss", "exp", "joe", " "}))
		}
	}
	return b.String()
}

// drawnTime: most often near an end of all clocks, or near 0.
func drawnTime(r *rand.Rand) int64 {
	return pick(r, []int64{low, high, 0, low + int64(r.Intn(1300)), high - int64(r.Intn(1300)), int64(r.Intn(2600)) - 1300, int64(r.Uint64())})
}

func drawnClaims(r *rand.Rand) api.Claims {
	c := api.Claims{}
	for _, f := range []struct {
		text *string
		has  *bool
	}{{&c.Iss, &c.HasIss}, {&c.Sub, &c.HasSub}, {&c.Jti, &c.HasJti}} {
		if r.Intn(2) == 0 {
			*f.text, *f.has = drawnText(r), true
		}
	}
	for _, m := range []*api.Time{&c.Exp, &c.Nbf, &c.Iat} {
		if r.Intn(2) == 0 {
			*m = at(drawnTime(r))
		}
	}
	if r.Intn(2) == 0 {
		c.HasAud = true
		for range r.Intn(4) {
			c.Aud = append(c.Aud, drawnText(r))
		}
	}
	return c
}

func blanks(r *rand.Rand) string {
	return strings.Repeat(pick(r, []string{"", "", " ", "\t", "\n", "\r"}), r.Intn(3))
}

// spelled: a string of JSON in one of its spellings.
func spelled(r *rand.Rand, s string) string {
	var b strings.Builder
	b.WriteByte('"')
	for _, c := range s {
		brief := strings.IndexByte("\"\\/\b\f\n\r\t", byte(c))
		switch {
		case c < 128 && brief >= 0 && r.Intn(2) == 0:
			b.WriteString(`\` + `"\/bfnrt`[brief:brief+1])
		case c >= 0x10000 && r.Intn(2) == 0:
			fmt.Fprintf(&b, `\u%04x\u%04X`, 0xd800+(c-0x10000)>>10, 0xdc00+(c-0x10000)&0x3ff)
		case c < 0x10000 && r.Intn(3) == 0, c < 0x20, c == '"', c == '\\':
			fmt.Fprintf(&b, pick(r, []string{`\u%04x`, `\u%04X`}), c)
		default:
			b.WriteRune(c)
		}
	}
	b.WriteByte('"')
	return b.String()
}

func spelledList(r *rand.Rand, l []string) string {
	var parts []string
	for _, s := range l {
		parts = append(parts, blanks(r)+spelled(r, s)+blanks(r))
	}
	return "[" + blanks(r) + strings.Join(parts, ",") + "]"
}

func spelledTime(r *rand.Rand, n int64) string {
	if n == 0 && r.Intn(2) == 0 {
		return "-0"
	}
	return fmt.Sprint(n)
}

// member: a name, and a value that is spelled already.
type member struct{ name, value string }

// membersOf: those of the claims, in drawn spellings.
func membersOf(r *rand.Rand, c api.Claims) []member {
	var out []member
	for _, f := range []struct {
		name, text string
		has        bool
	}{{"iss", c.Iss, c.HasIss}, {"sub", c.Sub, c.HasSub}, {"jti", c.Jti, c.HasJti}} {
		if f.has {
			out = append(out, member{f.name, spelled(r, f.text)})
		}
	}
	for i, m := range []api.Time{c.Exp, c.Nbf, c.Iat} {
		if m.Has {
			out = append(out, member{[]string{"exp", "nbf", "iat"}[i], spelledTime(r, m.At)})
		}
	}
	if len(c.Aud) == 1 && r.Intn(2) == 0 {
		return append(out, member{"aud", spelled(r, c.Aud[0])})
	}
	if c.HasAud {
		out = append(out, member{"aud", spelledList(r, c.Aud)})
	}
	return out
}

// others: members with names that are not registered, no two of one name.
func others(r *rand.Rand) []member {
	var out []member
	for i := range r.Intn(4) {
		name := pick(r, []string{"Iss", "EXP", "aud ", "", "nonce", "x" + drawnText(r)}) + fmt.Sprint(i)
		out = append(out, member{name, pick(r, []string{`null`, `true`, `1.5`, `"a"`, `[]`, `["iss",1]`, `{"iss":1,"exp":null,"x":{"aud":[[]]}}`, `9223372036854775808`})})
	}
	return out
}

// text: an object of these members, in any order.
func text(r *rand.Rand, members ...member) string {
	r.Shuffle(len(members), func(i, j int) { members[i], members[j] = members[j], members[i] })
	var parts []string
	for _, m := range members {
		parts = append(parts, blanks(r)+spelled(r, m.name)+blanks(r)+":"+blanks(r)+m.value+blanks(r))
	}
	return blanks(r) + "{" + strings.Join(parts, ",") + "}" + blanks(r)
}

// wrongOf: a value of the wrong kind for a registered name.
func wrongOf(r *rand.Rand, name string) string {
	switch name {
	case "iss", "sub", "jti":
		return pick(r, []string{`null`, `true`, `1`, `[]`, `["a"]`, `{}`, `-0`})
	case "aud":
		return pick(r, []string{`null`, `false`, `1`, `{}`, `[1]`, `["a",null]`, `[["a"]]`, `{"a":"b"}`})
	}
	return pick(r, []string{`null`, `true`, `"1"`, `[]`, `[1]`, `{}`, `1.0`, `1e3`, `0.0`, `9223372036854775808`, `-9223372036854775809`})
}

// Drawn claims in any spelling, with any other members, are read as themselves; spoilt in one place they have that place's code.
func TestDrawn(t *testing.T) {
	t.Parallel()
	r := rand.New(rand.NewSource(1))
	for range 20000 {
		c := drawnClaims(r)
		mustSay(t, text(r, membersOf(r, c)...), c)
		mustSay(t, text(r, append(membersOf(r, c), others(r)...)...), c)
		members := append(membersOf(r, c), others(r)...)
		if len(members) > 0 {
			mustParse(t, api.ErrTwice, text(r, append(members, member{pick(r, members).name, pick(r, []string{"1", "null"})})...))
		}
		name := pick(r, registered)
		members = slices.DeleteFunc(membersOf(r, c), func(m member) bool { return m.name == name })
		mustParse(t, api.ErrClaim, text(r, append(members, member{name, wrongOf(r, name)})...))
		mustParse(t, api.ErrClaims, "["+text(r, members...)+"]")
	}
}

// 19.7: two spellings of one value have the same claims.
func TestOneValue(t *testing.T) {
	t.Parallel()
	r := rand.New(rand.NewSource(2))
	for range 10000 {
		doc := text(r, append(membersOf(r, drawnClaims(r)), others(r)...)...)
		v, _, _ := json.Parse(doc)
		shortest, _ := json.Print(v)
		one, code := holdParse(t, doc)
		two, again := holdParse(t, shortest)
		if code != api.OK || again != api.OK || !same(one, two) {
			t.Fatalf("19.7: %q and %q: %s, %d and %s, %d", doc, shortest, short(one), int(code), short(two), int(again))
		}
	}
}

// Drawn policies, most often made of what the claims say.
func TestDrawnChecks(t *testing.T) {
	t.Parallel()
	r := rand.New(rand.NewSource(3))
	met := map[api.Errno]int{}
	for range 20000 {
		said := drawnClaims(r)
		members := append(membersOf(r, said), others(r)...)
		c := parsed(t, text(r, members...))
		p := api.Policy{HasIss: c.HasIss && r.Intn(4) != 0, Iss: c.Iss, HasAud: c.HasAud, Aud: pick(r, append([]string{""}, c.Aud...))}
		for range r.Intn(3) {
			if len(members) > 0 {
				p.Need = append(p.Need, pick(r, members).name)
			}
		}
		switch r.Intn(8) {
		case 0:
			p.Iss = drawnText(r)
		case 1:
			p.HasIss = !p.HasIss
		case 2:
			p.Aud = drawnText(r)
		case 3:
			p.HasAud = !p.HasAud
		case 4:
			p.Need = append(p.Need, drawnText(r), pick(r, registered))
		}
		met[holdCheck(t, c, p)]++
	}
	for _, code := range []api.Errno{api.OK, api.ErrMissing, api.ErrIss, api.ErrAud} {
		if met[code] < 500 {
			t.Fatalf("only %d of %d", met[code], int(code))
		}
	}
}

// Drawn times, at drawn clocks and at those around each bound.
func TestDrawnTimes(t *testing.T) {
	t.Parallel()
	r := rand.New(rand.NewSource(4))
	met := map[api.Errno]int{}
	for range 20000 {
		c, leeway := drawnClaims(r), pick(r, []int64{0, 1, 600, int64(r.Intn(601)), int64(r.Intn(601)), drawnTime(r)})
		holdOpen(t, c, leeway)
		for _, m := range []api.Time{c.Exp, c.Nbf, c.Iat} {
			for d := int64(-1); d <= 1; d++ {
				met[holdClock(t, c, leeway, m.At+leeway+d)]++
				met[holdClock(t, c, leeway, m.At-leeway+d)]++
			}
		}
		met[holdClock(t, c, leeway, drawnTime(r))]++
	}
	for _, code := range []api.Errno{api.OK, api.ErrPolicy, api.ErrExpired, api.ErrEarly, api.ErrFuture} {
		if met[code] < 1000 {
			t.Fatalf("only %d of %d", met[code], int(code))
		}
	}
}

// 19.5, between the ends: of three clocks in their order, the outer ones let by, the middle one is too.
func TestNoGap(t *testing.T) {
	t.Parallel()
	r := rand.New(rand.NewSource(5))
	for range 100000 {
		c, leeway := drawnClaims(r), int64(r.Intn(601))
		clocks := []int64{drawnTime(r), drawnTime(r), drawnTime(r)}
		slices.Sort(clocks)
		var by [3]bool
		for i, now := range clocks {
			by[i] = claims.Clock(c, leeway, now) == api.OK
		}
		if by[0] && by[2] && !by[1] {
			t.Fatalf("19.5: %s, %d: %d and %d are let by, %d is not", short(c), leeway, clocks[0], clocks[2], clocks[1])
		}
	}
}
