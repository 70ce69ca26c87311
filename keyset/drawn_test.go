package keyset_test

import (
	"fmt"
	"math/rand"
	"slices"
	"strings"
	"testing"

	"signet/api"
	"signet/json"
	"signet/keyset"
)

func pick[T any](r *rand.Rand, of []T) T { return of[r.Intn(len(of))] }

// What a member may be in a drawn key: such as a set takes, and such as spoil it.
var (
	goodMembers = map[string][]string{
		"kty":     {`"oct"`, `"RSA"`, `"EC"`, `"OKP"`, `"EC"`, `"rsa"`, `""`},
		"crv":     {`"P-256"`, `"P-384"`, `"Ed25519"`, `"P-521"`, `1`, `null`, `{"crv":"P-256"}`, ``},
		"kid":     {`"a"`, `"b"`, `"c"`, `""`, `"A"`, `"é"`, `"\u0061"`, ``, ``},
		"use":     {`"sig"`, `"sig"`, `"enc"`, `""`, ``, ``, ``, ``},
		"alg":     {`"HS256"`, `"RS256"`, `"PS384"`, `"ES256"`, `"ES384"`, `"EdDSA"`, `"none"`, `""`, ``, ``, ``, ``, ``, ``},
		"key_ops": {`["verify"]`, `["sign","verify"]`, `["sign"]`, `[]`, `["Verify",""]`, ``, ``, ``, ``},
		"x":       {`"AA"`, `7`, `[{"kid":"a","kty":"oct"}]`, `{"crv":"P-256","kid":3}`, ``, ``},
		"d":       {`null`, ``, ``},
	}
	badMembers = map[string][]string{
		"kty":     {``, `1`, `null`, `["oct"]`},
		"kid":     {`1`, `null`, `["a"]`, `{"a":"a"}`},
		"use":     {`true`, `[]`},
		"alg":     {`false`, `{}`},
		"key_ops": {`"verify"`, `{"0":"verify"}`, `["verify",1]`, `["a","b","\u0061"]`, `null`, `[["verify"]]`},
	}
	memberNames = []string{"kty", "crv", "kid", "use", "alg", "key_ops", "x", "d"}
)

// drawnKey: an object; if it is to be a bad one, one of its members is.
func drawnKey(r *rand.Rand, bad bool) string {
	says := map[string]string{}
	for _, name := range memberNames {
		says[name] = pick(r, goodMembers[name])
	}
	if bad {
		name := pick(r, []string{"kty", "kid", "use", "alg", "key_ops"})
		says[name] = pick(r, badMembers[name])
	}
	var parts []string
	for _, i := range r.Perm(len(memberNames)) {
		if name := memberNames[i]; says[name] != "" {
			parts = append(parts, `"`+name+`":`+says[name])
		}
	}
	return "{" + strings.Join(parts, ",") + "}"
}

func drawnKeys(r *rand.Rand, n int) []string {
	var out []string
	for range n {
		out = append(out, drawnKey(r, false))
	}
	return out
}

func set(keys []string) string { return `{"keys":[` + strings.Join(keys, ",") + `]}` }

func TestDrawnSets(t *testing.T) {
	t.Parallel()
	r := rand.New(rand.NewSource(1))
	for range 4000 {
		keys := drawnKeys(r, r.Intn(6))
		mustParse(t, "drawn", api.OK, set(keys))
		spoilt := slices.Insert(slices.Clone(keys), r.Intn(len(keys)+1), drawnKey(r, true))
		mustParse(t, "drawn, with a bad one", api.ErrMember, set(spoilt))
	}
}

// 16.5: where Find and Bind are OK, the text itself says so.
func TestJustOne(t *testing.T) {
	t.Parallel()
	r := rand.New(rand.NewSource(2))
	bound := 0
	for range 4000 {
		doc := set(drawnKeys(r, 1+r.Intn(5)))
		l := entries(t, doc)
		for _, kid := range someKids {
			x, code := keyset.Find(l, kid)
			for i, name := range names {
				if code == api.OK && keyset.Bind(x, algs[i]) == api.OK {
					bound++
					holdAllowed(t, doc, kid, name)
				}
			}
		}
	}
	if bound < 1000 {
		t.Fatalf("only %d were bound", bound)
	}
}

// 16.6: other entries, drawn, at any places, in any order.
func TestOthersDoNotCount(t *testing.T) {
	t.Parallel()
	r := rand.New(rand.NewSource(3))
	for range 3000 {
		kid := pick(r, []string{"a", "", "é"})
		isOther := func(x api.Entry) bool { return !x.HasKid || x.Kid != kid }
		var wanted, others []string
		for _, key := range drawnKeys(r, 12) {
			if isOther(only(t, key)) {
				others = append(others, key)
			} else {
				wanted = append(wanted, key)
			}
		}
		alone := entries(t, set(wanted))
		r.Shuffle(len(others), func(i, j int) { others[i], others[j] = others[j], others[i] })
		all := slices.Concat(wanted, others[:r.Intn(len(others)+1)])
		r.Shuffle(len(all), func(i, j int) { all[i], all[j] = all[j], all[i] })
		mixed := entries(t, set(all))
		holdSameFound(t, alone, mixed, kid)
		holdSameFound(t, mixed, slices.DeleteFunc(slices.Clone(mixed), isOther), kid)
	}
}

func holdSameFound(t *testing.T, a, b []api.Entry, kid string) {
	t.Helper()
	x, code := keyset.Find(a, kid)
	y, again := keyset.Find(b, kid)
	if code != again || !same(x, y) {
		t.Fatalf("16.6: Find(%q): %v, %d; with others: %v, %d", kid, x, int(code), y, int(again))
	}
	for _, alg := range algs {
		if keyset.Bind(x, alg) != keyset.Bind(y, alg) {
			t.Fatalf("16.6: Bind(%d) of %v and %v", int64(alg), x, y)
		}
	}
}

func blanks(r *rand.Rand) string {
	return strings.Repeat(pick(r, []string{"", "", " ", "\t", "\n", "\r"}), r.Intn(3))
}

// spelled: a string of JSON in one of its spellings.
func spelled(r *rand.Rand, s string) string {
	var b strings.Builder
	b.WriteByte('"')
	for _, c := range s {
		switch {
		case c < 0x10000 && r.Intn(3) == 0, c < 0x20:
			fmt.Fprintf(&b, pick(r, []string{`\u%04x`, `\u%04X`}), c)
		case c == '"' || c == '\\':
			b.WriteString(`\` + string(c))
		default:
			b.WriteRune(c)
		}
	}
	b.WriteByte('"')
	return b.String()
}

// respelled: a text of the same value.
func respelled(r *rand.Rand, x tree) string {
	switch x.kind() {
	case api.Null:
		return "null"
	case api.False:
		return "false"
	case api.True:
		return "true"
	case api.Number:
		return x.text()
	case api.String:
		return spelled(r, x.text())
	}
	var parts []string
	for _, kid := range x.kids {
		text := blanks(r) + respelled(r, kid) + blanks(r)
		if x.kind() == api.Object {
			text = blanks(r) + spelled(r, kid.nodes[0].Key) + blanks(r) + ":" + text
		}
		parts = append(parts, text)
	}
	ends := "[]"
	if x.kind() == api.Object {
		ends = "{}"
	}
	inner := strings.Join(parts, ",")
	if inner == "" {
		inner = blanks(r)
	}
	return ends[:1] + inner + ends[1:]
}

// 16.7: how a document is written does not count.
func TestAsWritten(t *testing.T) {
	t.Parallel()
	r := rand.New(rand.NewSource(4))
	for i := range 3000 {
		doc := set(append(drawnKeys(r, r.Intn(4)), drawnKey(r, i%3 == 0)))
		v := value(t, doc)
		other := blanks(r) + respelled(r, grown(v, 0)) + blanks(r)
		if !slices.Equal(value(t, other), v) {
			t.Fatalf("%q is not the value of %q", other, doc)
		}
		short, _ := json.Print(v)
		l, code := keyset.Parse(doc)
		for _, text := range []string{other, short} {
			again, next := keyset.Parse(text)
			if code != next || !sameAll(l, again) {
				t.Fatalf("16.7: Parse(%q) = %v, %d; Parse(%q) = %v, %d", doc, l, int(code), text, again, int(next))
			}
		}
		hold(t, other)
	}
}
