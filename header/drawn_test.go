package header_test

import (
	"fmt"
	"math/rand"
	"slices"
	"strings"
	"testing"

	"signet/api"
	"signet/header"
	"signet/json"
)

func pick[T any](r *rand.Rand, of []T) T { return of[r.Intn(len(of))] }

// drawnText: well formed UTF-8, of any runes.
func drawnText(r *rand.Rand) string {
	var b strings.Builder
	for range r.Intn(6) {
		switch r.Intn(5) {
		case 0:
			b.WriteRune(rune(r.Intn(32)))
		case 1:
			b.WriteRune(pick(r, []rune{'"', '\\', '/', 127, 0x2028, 0xfffd, 0x10ffff, 0xd7ff, 0xe000, 0xffff, 0x10000}))
		case 2:
			b.WriteRune(rune(r.Intn(0xd800)))
		case 3:
			b.WriteRune(rune(0xe000 + r.Intn(0x110000-0xe000)))
		default:
			b.WriteString(pick(r, []string{"k", "JWT", "HS256", "none", "alg", " "}))
		}
	}
	return b.String()
}

func drawnHeader(r *rand.Rand) api.Header {
	h := api.Header{Alg: api.Alg(1 + r.Intn(12)), Kid: drawnText(r), HasTyp: r.Intn(2) == 0}
	if h.HasTyp {
		h.Typ = drawnText(r)
	}
	return h
}

func blanks(r *rand.Rand) string {
	return strings.Repeat(pick(r, []string{"", "", " ", "\t", "\n", "\r"}), r.Intn(3))
}

// spelled: a string of JSON in one of its spellings.
func spelled(r *rand.Rand, s string) string {
	var b strings.Builder
	b.WriteByte('"')
	for _, c := range s {
		short := strings.IndexByte("\"\\/\b\f\n\r\t", byte(c))
		switch {
		case c < 128 && short >= 0 && r.Intn(2) == 0:
			b.WriteString(`\` + `"\/bfnrt`[short:short+1])
		case c >= 0x10000 && r.Intn(2) == 0:
			fmt.Fprintf(&b, `\u%04x\u%04X`, 0xd800+(c-0x10000)>>10, 0xdc00+(c-0x10000)&0x3ff)
		case c < 0x10000 && r.Intn(3) == 0, c < 0x20, c == '"', c == '\\':
			fmt.Fprintf(&b, pick(r, []string{`\u%04x`, `\u%04X`}), c)
		default:
			b.WriteRune(c)
		}
	}
	b.WriteByte('"')
	return b.String()
}

// text: an object of these members, names and values spelled already.
func text(r *rand.Rand, members ...[2]string) string {
	r.Shuffle(len(members), func(i, j int) { members[i], members[j] = members[j], members[i] })
	var parts []string
	for _, m := range members {
		parts = append(parts, blanks(r)+m[0]+blanks(r)+":"+blanks(r)+m[1]+blanks(r))
	}
	return blanks(r) + "{" + strings.Join(parts, ",") + "}" + blanks(r)
}

// membersOf: a header's, in drawn spellings.
func membersOf(r *rand.Rand, alg string, h api.Header) [][2]string {
	out := [][2]string{{spelled(r, "alg"), spelled(r, alg)}, {spelled(r, "kid"), spelled(r, h.Kid)}}
	if h.HasTyp {
		out = append(out, [2]string{spelled(r, "typ"), spelled(r, h.Typ)})
	}
	return out
}

// A drawn header in any spelling is read as itself; spoilt in one place it has that place's code.
func TestDrawn(t *testing.T) {
	t.Parallel()
	r := rand.New(rand.NewSource(1))
	others := []string{"crit", "b64", "", "Alg", "KID", "typ ", "jwk", "x5c", "cty", "é"}
	for range 20000 {
		h := drawnHeader(r)
		name := nameOf(h.Alg)
		mustRead(t, text(r, membersOf(r, name, h)...), h)
		mustParse(t, api.ErrAlg, text(r, membersOf(r, pick(r, []string{"none", "NONE", "", "hs256", name + " ", name[:4], strings.ToLower(name)}), h)...))
		alg := pick(r, []string{name, "none"})
		more := append(membersOf(r, alg, h), [2]string{spelled(r, pick(r, others)), spelled(r, drawnText(r))})
		mustParse(t, api.ErrHeader, text(r, more...))
		wrong := membersOf(r, alg, h)
		wrong[r.Intn(len(wrong))][1] = pick(r, []string{"null", "true", "false", "1", "[]", "{}", `["HS256"]`, `{"alg":"HS256"}`})
		mustParse(t, api.ErrHeader, text(r, wrong...))
		at := r.Intn(2)
		mustParse(t, api.ErrHeader, text(r, slices.Delete(membersOf(r, alg, h), at, at+1)...))
		twice := append(membersOf(r, alg, h), [2]string{spelled(r, pick(r, []string{"alg", "kid"})), spelled(r, name)})
		mustParse(t, api.ErrTwice, text(r, twice...))
	}
}

// Print's text is the value's shortest one, and there is one a header.
func TestDrawnBack(t *testing.T) {
	t.Parallel()
	r := rand.New(rand.NewSource(2))
	met := map[string]api.Header{}
	for range 20000 {
		h := drawnHeader(r)
		shortest, code := holdPrint(t, h)
		if code != api.OK {
			t.Fatalf("17.3: Print(%s) = %d", short(h), int(code))
		}
		if was, ok := met[shortest]; ok && was != h {
			t.Fatalf("17.4: %s is Print of %s and of %s", shortest, short(was), short(h))
		}
		met[shortest] = h
		long := text(r, membersOf(r, nameOf(h.Alg), h)...)
		if len(long) < len(shortest) {
			t.Fatalf("17.4: %q is longer than %q", shortest, long)
		}
		v, _, _ := json.Parse(shortest)
		if again, code := json.Print(v); code != api.OK || again != shortest {
			t.Fatalf("17.3: Print(%s) = %q, and json.Print %q", short(h), shortest, again)
		}
	}
}

// 17.5: what is read and allowed says so in its own text, and in the policy.
func TestClosed(t *testing.T) {
	t.Parallel()
	r := rand.New(rand.NewSource(3))
	words := slices.Concat(names, strings.Fields("none None alg hs256 ES512"), []string{""})
	allowed := 0
	for range 20000 {
		alg := pick(r, words)
		doc := text(r, membersOf(r, alg, drawnHeader(r))...)
		p := api.Policy{HasTyp: r.Intn(4) == 0, Typ: pick(r, []string{"", "JWT"})}
		for range r.Intn(14) {
			p.Algs = append(p.Algs, pick(r, words))
		}
		h, code := header.Parse(doc)
		if code != api.OK || holdAllow(t, p, h) != api.OK {
			continue
		}
		allowed++
		if alg != nameOf(h.Alg) || !slices.Contains(names, alg) || !slices.Contains(p.Algs, alg) {
			t.Fatalf("17.5: %q with the alg %q is let by under %q", doc, alg, p.Algs)
		}
		more := p
		more.Algs = append(slices.Clone(p.Algs), pick(r, words))
		if code := holdAllow(t, more, h); code != api.OK {
			t.Fatalf("T9: one more of %q: %d", p.Algs, int(code))
		}
	}
	if allowed < 1000 {
		t.Fatalf("only %d were let by", allowed)
	}
}
