package jwt_test

import (
	"fmt"
	"math/rand"
	"slices"
	"strings"
	"testing"

	"signet/api"
)

// drawnText: well formed UTF-8, of any runes.
func drawnText(r *rand.Rand) string {
	var b strings.Builder
	for range r.Intn(6) {
		switch r.Intn(4) {
		case 0:
			b.WriteRune(pick(r, []rune{'"', '\\', '/', '.', 0, 31, 127, 0x2028, 0xfffd, 0x10ffff, 0xd7ff, 0xe000, 0xffff, 0x10000}))
		case 1:
			b.WriteRune(rune(r.Intn(0xd800)))
		case 2:
			b.WriteRune(rune(0xe000 + r.Intn(0x110000-0xe000)))
		default:
			b.WriteString(pick(r, []string{"a", "k", "none", "me", " "}))
		}
	}
	return b.String()
}

func blanks(r *rand.Rand) string {
	return strings.Repeat(pick(r, []string{"", "", " ", "\t", "\n", "\r"}), r.Intn(3))
}

// spelled: a string of JSON in one of its spellings.
func spelled(r *rand.Rand, s string) string {
	var b strings.Builder
	b.WriteByte('"')
	for _, c := range s {
		switch {
		case c >= 0x10000 && r.Intn(2) == 0:
			fmt.Fprintf(&b, `\u%04x\u%04X`, 0xd800+(c-0x10000)>>10, 0xdc00+(c-0x10000)&0x3ff)
		case c < 0x10000 && r.Intn(3) == 0, c < 0x20, c == '"', c == '\\':
			fmt.Fprintf(&b, pick(r, []string{`\u%04x`, `\u%04X`}), c)
		default:
			b.WriteRune(c)
		}
	}
	b.WriteByte('"')
	return b.String()
}

// respelled: a text of the same value, its members in the same order.
func respelled(r *rand.Rand, x tree) string {
	switch x.kind() {
	case api.Null:
		return "null"
	case api.False:
		return "false"
	case api.True:
		return "true"
	case api.Number:
		return x.nodes[0].Text
	case api.String:
		return spelled(r, x.text())
	}
	var parts []string
	for _, kid := range x.kids {
		text := blanks(r) + respelled(r, kid) + blanks(r)
		if x.kind() == api.Object {
			text = blanks(r) + spelled(r, kid.nodes[0].Key) + blanks(r) + ":" + text
		}
		parts = append(parts, text)
	}
	if x.kind() == api.Object {
		return "{" + strings.Join(parts, ",") + "}"
	}
	return "[" + strings.Join(parts, ",") + "]"
}

func shuffled(r *rand.Rand, l []member) []member {
	l = slices.Clone(l)
	r.Shuffle(len(l), func(i, j int) { l[i], l[j] = l[j], l[i] })
	return l
}

// written: a token and a key set of the plan, whose texts are spelled in any way.
func written(r *rand.Rand, p *plan) (token, keys string) {
	head := respelled(r, grown([]byte(object(shuffled(r, p.head)...))))
	pay := respelled(r, grown([]byte(object(p.pay...))))
	signing := signs([]byte(blanks(r)+head+blanks(r))) + "." + signs([]byte(blanks(r)+pay+blanks(r)))
	sig := p.by.sign(p.row, signing)
	entries := append([]string{object(shuffled(r, p.key)...)}, p.others...)
	r.Shuffle(len(entries), func(i, j int) { entries[i], entries[j] = entries[j], entries[i] })
	return signing + "." + signs(sig), blanks(r) + respelled(r, grown([]byte(set(entries...)))) + blanks(r)
}

// drawn: a right plan with drawn texts: kid, typ, issuer, audience, name, other members.
func drawn(r *rand.Rand, c row) *plan {
	p := right(c)
	kid, typ, iss, aud := drawnText(r), drawnText(r), drawnText(r), drawnText(r)
	p.head = []member{{"alg", quoted(c.name)}, {"kid", spelled(r, kid)}, {"typ", spelled(r, typ)}}
	p.key = put(p.key, "kid", spelled(r, kid))
	p.pay = put(put(put(p.pay, "iss", spelled(r, iss)), "jti", spelled(r, drawnText(r))), "aud", "["+spelled(r, drawnText(r))+","+spelled(r, aud)+"]")
	for i := range r.Intn(4) {
		p.pay = append(p.pay, member{fmt.Sprint("x", i), pick(r, []string{`null`, `1.5e400`, `"exp"`, `[]`, `{"exp":1,"iss":null}`, `[[true],{}]`})})
	}
	p.pay = shuffled(r, p.pay)
	p.policy.Typ, p.policy.Iss, p.policy.Aud = typ, iss, aud
	p.policy.Algs = []string{drawnText(r), c.name, pick(r, namesOfAll())}
	if kid != "k" {
		p.others = slices.DeleteFunc(otherEntries(r), func(doc string) bool { return grown([]byte(doc)).member("kid").text() == kid })
	}
	return p
}

// Drawn plans in any spelling are taken, with just the texts that they are made of; at the ends of their times too.
func TestDrawnPlans(t *testing.T) {
	t.Parallel()
	r := rand.New(rand.NewSource(8))
	for i := range 96 {
		p := drawn(r, rows[i%len(rows)])
		token, keys := written(r, p)
		now := pick(r, []int64{1090, 1091, 1500, 2008, 2009})
		c := mustVerify(t, "drawn", api.OK, token, keys, p.policy, now)
		if c.Iss != p.policy.Iss || c.Aud[1] != p.policy.Aud || c.Exp.At != 2000 || !c.HasJti || c.HasSub {
			t.Fatalf("20.1: %s", short(c))
		}
		p.policy.Leeway = int64(r.Intn(90))
		hold(t, token, keys, p.policy, 1100-p.policy.Leeway-1)
		mustVerify(t, "drawn, at its beginning", api.OK, token, keys, p.policy, 1100-p.policy.Leeway)
		mustVerify(t, "drawn, at its end", api.ErrExpired, token, keys, p.policy, 2000+p.policy.Leeway)
	}
}

// Drawn plans with one text of the policy another one.
func TestDrawnPolicies(t *testing.T) {
	t.Parallel()
	r := rand.New(rand.NewSource(9))
	met := map[api.Errno]int{}
	for i := range 300 {
		p := drawn(r, rows[i%3])
		switch r.Intn(6) {
		case 0:
			p.policy.Typ += drawnText(r)
		case 1:
			p.policy.Iss += drawnText(r)
		case 2:
			p.policy.Aud += drawnText(r)
		case 3:
			p.policy.Algs = slices.Delete(p.policy.Algs, 1, 2)
		case 4:
			p.policy.Need = append(p.policy.Need, pick(r, []string{"exp", "x0", "x1", "EXP", ""}))
		default:
			p.policy.HasTyp, p.policy.HasIss, p.policy.HasAud = r.Intn(2) == 0, r.Intn(2) == 0, r.Intn(2) == 0
		}
		token, keys := written(r, p)
		_, code := hold(t, token, keys, p.policy, p.now)
		met[code]++
	}
	for _, code := range []api.Errno{api.OK, api.ErrTyp, api.ErrIss, api.ErrAud, api.ErrBarred, api.ErrMissing} {
		if met[code] == 0 {
			t.Fatalf("none of %d: %v", int(code), met)
		}
	}
}
