package header_test

import (
	"fmt"
	"strings"
	"testing"
	"unicode/utf8"

	"signet/api"
	"signet/header"
	"signet/json"
)

// The chapter's words, written out case by case.

// names: the twelve, in the order of api's constants, which begin with NoAlg.
var names = strings.Fields("HS256 HS384 HS512 RS256 RS384 RS512 PS256 PS384 PS512 ES256 ES384 EdDSA")

// algs: the twelve, and numbers that are no algorithm.
var algs = []api.Alg{api.HS256, api.HS384, api.HS512, api.RS256, api.RS384, api.RS512, api.PS256, api.PS384, api.PS512, api.ES256, api.ES384, api.EdDSA, api.NoAlg, api.EdDSA + 1, -1, 1 << 32, 1<<32 + 1, 1<<63 - 1, -1 << 63}

// nameOf: empty of what is no algorithm.
func nameOf(a api.Alg) string {
	if a < 1 || a > 12 {
		return ""
	}
	return names[a-1]
}

// behind: the place behind the value that begins at a place of a well shaped one.
func behind(v []api.Node, at int) int {
	next := at + 1
	for range v[at].Kids {
		next = behind(v, next)
	}
	return next
}

// wantValue: what a header's value says; alg as a text.
func wantValue(v []api.Node) (alg string, h api.Header, ok bool) {
	if v[0].Kind != api.Object {
		return "", api.Header{}, false
	}
	hasAlg, hasKid := false, false
	at := 1
	for range v[0].Kids {
		n := v[at]
		at = behind(v, at)
		if n.Kind != api.String {
			return "", api.Header{}, false
		}
		switch n.Key {
		case "alg":
			alg, hasAlg = n.Text, true
		case "kid":
			h.Kid, hasKid = n.Text, true
		case "typ":
			h.Typ, h.HasTyp = n.Text, true
		default:
			return "", api.Header{}, false
		}
	}
	return alg, h, hasAlg && hasKid
}

func wantParse(text string) (api.Header, api.Errno) {
	v, code, _ := json.Parse(text)
	if code != api.OK {
		return api.Header{}, code
	}
	alg, h, ok := wantValue(v)
	if !ok {
		return api.Header{}, api.ErrHeader
	}
	for i, name := range names {
		if alg == name {
			h.Alg = algs[i]
			return h, api.OK
		}
	}
	return api.Header{}, api.ErrAlg
}

func wantAllow(p api.Policy, h api.Header) api.Errno {
	listed := false
	for _, name := range p.Algs {
		if name != "" && name == nameOf(h.Alg) {
			listed = true
		}
	}
	if !listed {
		return api.ErrBarred
	}
	if p.HasTyp && !h.HasTyp {
		return api.ErrTyp
	}
	if p.HasTyp && h.Typ != p.Typ {
		return api.ErrTyp
	}
	return api.OK
}

// quoted: a string's shortest spelling.
func quoted(s string) string {
	var b strings.Builder
	b.WriteByte('"')
	for i := range len(s) {
		if at := strings.IndexByte("\"\\\b\f\n\r\t", s[i]); at >= 0 {
			b.WriteString(`\` + `"\bfnrt`[at:at+1])
		} else if s[i] < 32 {
			fmt.Fprintf(&b, `\u%04x`, s[i])
		} else {
			b.WriteByte(s[i])
		}
	}
	b.WriteByte('"')
	return b.String()
}

func wantPrint(h api.Header) (string, api.Errno) {
	if nameOf(h.Alg) == "" {
		return "", api.ErrAlg
	}
	if !utf8.ValidString(h.Kid) {
		return "", api.ErrHeader
	}
	text := `{"alg":"` + nameOf(h.Alg) + `","kid":` + quoted(h.Kid)
	if h.HasTyp {
		if !utf8.ValidString(h.Typ) {
			return "", api.ErrHeader
		}
		text += `,"typ":` + quoted(h.Typ)
	}
	text += "}"
	if len(text) > api.MaxKeys {
		return "", api.ErrLarge
	}
	return text, api.OK
}

// Asking, with every answer held against the chapter's words, P4, and what follows from the answer.

func short(x any) string { return fmt.Sprintf("%.300q", fmt.Sprintf("%+v", x)) }

func holdParse(t *testing.T, text string) (api.Header, api.Errno) {
	t.Helper()
	want, wantCode := wantParse(text)
	h, code := header.Parse(text)
	if code != wantCode || h != want {
		t.Fatalf("17.1: Parse(%s) = %s, %d, want %s, %d", short(text), short(h), int(code), short(want), int(wantCode))
	}
	if code != api.OK && h != (api.Header{}) {
		t.Fatalf("P4: Parse(%s) refuses, and answers %s", short(text), short(h))
	}
	if code != api.OK {
		return h, code
	}
	again, code := header.Print(h)
	if code != api.OK || len(again) > len(text) {
		t.Fatalf("17.4: Print of Parse(%s) = %s, %d", short(text), short(again), int(code))
	}
	if h2, code := header.Parse(again); code != api.OK || h2 != h {
		t.Fatalf("17.4: Parse of Print of Parse(%s) = %s, %d", short(text), short(h2), int(code))
	}
	return h, api.OK
}

func holdAllow(t *testing.T, p api.Policy, h api.Header) api.Errno {
	t.Helper()
	code := header.Allow(p, h)
	if want := wantAllow(p, h); code != want {
		t.Fatalf("17.2: Allow(%s, %s) = %d, want %d", short(p), short(h), int(code), int(want))
	}
	return code
}

func holdPrint(t *testing.T, h api.Header) (string, api.Errno) {
	t.Helper()
	want, wantCode := wantPrint(h)
	text, code := header.Print(h)
	if code != wantCode || text != want {
		t.Fatalf("17.3: Print(%s) = %s, %d, want %s, %d", short(h), short(text), int(code), short(want), int(wantCode))
	}
	if code != api.OK {
		return text, code
	}
	if !h.HasTyp {
		h.Typ = ""
	}
	if back, code := header.Parse(text); code != api.OK || back != h {
		t.Fatalf("17.4: Parse of Print(%s) = %s, %d", short(h), short(back), int(code))
	}
	return text, api.OK
}

func mustParse(t *testing.T, want api.Errno, text string) {
	t.Helper()
	if _, code := header.Parse(text); code != want {
		t.Fatalf("17.1: Parse(%s) = %d, want %d", short(text), int(code), int(want))
	}
	holdParse(t, text)
}

// mustRead: the header that a text must be.
func mustRead(t *testing.T, text string, want api.Header) {
	t.Helper()
	if h, code := header.Parse(text); code != api.OK || h != want {
		t.Fatalf("17.1: Parse(%s) = %s, %d, want %s", short(text), short(h), int(code), short(want))
	}
	holdParse(t, text)
}

func mustAllow(t *testing.T, want api.Errno, p api.Policy, h api.Header) {
	t.Helper()
	if code := header.Allow(p, h); code != want {
		t.Fatalf("17.2: Allow(%s, %s) = %d, want %d", short(p), short(h), int(code), int(want))
	}
	holdAllow(t, p, h)
}

func mustPrint(t *testing.T, wantCode api.Errno, want string, h api.Header) {
	t.Helper()
	if text, code := header.Print(h); code != wantCode || text != want {
		t.Fatalf("17.3: Print(%s) = %s, %d, want %s, %d", short(h), short(text), int(code), short(want), int(wantCode))
	}
	holdPrint(t, h)
}
