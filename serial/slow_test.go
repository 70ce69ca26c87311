package serial_test

import (
	"encoding/base64"
	"fmt"
	"math"
	"reflect"
	"slices"
	"strings"
	"testing"
	"unicode/utf8"

	"signet/api"
	"signet/json"
	"signet/jwt"
	"signet/serial"
)

// The chapter's words.

const low, high = math.MinInt64, math.MaxInt64

// wantTokens: 21.1.
func wantTokens(text string) ([]string, api.Errno) {
	if _, code, _ := json.Parse(text); code != api.OK {
		return nil, code
	}
	x := grown(text)
	payload := x.member("payload")
	of := func(y tree) string {
		return y.member("protected").text() + "." + payload.text() + "." + y.member("signature").text()
	}
	if x.just("payload", "protected", "signature") && payload.plain() && x.member("protected").plain() && x.member("signature").plain() {
		return []string{of(x)}, api.OK
	}
	list := x.member("signatures")
	if !x.just("payload", "signatures") || !payload.plain() || list.kind() != api.List || len(list.kids) < 1 || len(list.kids) > 16 {
		return nil, api.ErrSerial
	}
	var l []string
	for _, y := range list.kids {
		if !y.just("protected", "signature") || !y.member("protected").plain() || !y.member("signature").plain() {
			return nil, api.ErrSerial
		}
		l = append(l, of(y))
	}
	return l, api.OK
}

// wantGeneral: 21.2.
func wantGeneral(tokens []string) (string, api.Errno) {
	if len(tokens) < 1 || len(tokens) > 16 {
		return "", api.ErrSerial
	}
	var pairs []string
	for _, token := range tokens {
		parts := strings.Split(token, ".")
		if len(parts) != 3 || !utf8.ValidString(token) || parts[1] != strings.Split(tokens[0], ".")[1] {
			return "", api.ErrSerial
		}
		pairs = append(pairs, object(member{"protected", quoted(parts[0])}, member{"signature", quoted(parts[2])}))
	}
	text := object(member{"payload", quoted(strings.Split(tokens[0], ".")[1])}, member{"signatures", "[" + strings.Join(pairs, ",") + "]"})
	if len(text) > 262144 {
		return "", api.ErrLarge
	}
	return text, api.OK
}

// wantVerify: 21.3.
func wantVerify(text, keys string, p api.Policy, now int64, want int) (api.Claims, []string, api.Errno) {
	if p.Leeway < 0 || p.Leeway > 600 || want < 1 || want > 16 {
		return api.Claims{}, nil, api.ErrPolicy
	}
	tokens, code := wantTokens(text)
	if code != api.OK {
		return api.Claims{}, nil, code
	}
	var said []api.Claims
	var kids []string
	for _, token := range tokens {
		if c, code := jwt.Verify(token, keys, p, now); code == api.OK {
			said, kids = append(said, c), append(kids, kidOf(token))
		}
	}
	slices.Sort(kids)
	kids = slices.Compact(kids)
	if len(kids) < want {
		return api.Claims{}, nil, api.ErrFew
	}
	return said[0], kids, api.OK
}

// kidOf: the kid in the header of a token that holds.
func kidOf(token string) string {
	head, _, _ := strings.Cut(token, ".")
	return grown(string(must(base64.RawURLEncoding.DecodeString(head)))).member("kid").text()
}

// tree: a JSON value; without nodes: none.
type tree struct {
	nodes []api.Node
	kids  []tree
}

func (x tree) there() bool { return len(x.nodes) > 0 }

func (x tree) kind() api.Kind {
	if !x.there() {
		return 0
	}
	return x.nodes[0].Kind
}

// text: that of a string; of anything else one that no string is (UTF-8 apart).
func (x tree) text() string {
	if x.kind() != api.String {
		return "\xff"
	}
	return x.nodes[0].Text
}

// plain: is it a string without a dot?
func (x tree) plain() bool { return x.kind() == api.String && !strings.Contains(x.text(), ".") }

func (x tree) member(name string) tree {
	for _, kid := range x.kids {
		if x.kind() == api.Object && kid.nodes[0].Key == name {
			return kid
		}
	}
	return tree{}
}

// just: is it an object of the members of these names, and no others?
func (x tree) just(names ...string) bool {
	for _, name := range names {
		if !x.member(name).there() {
			return false
		}
	}
	return x.kind() == api.Object && len(x.kids) == len(names)
}

func grown(doc string) tree {
	v, _, _ := json.Parse(doc)
	if len(v) == 0 {
		return tree{}
	}
	return grownAt(v, 0)
}

func grownAt(v []api.Node, at int) tree {
	x := tree{}
	next := at + 1
	for range v[at].Kids {
		kid := grownAt(v, next)
		x.kids = append(x.kids, kid)
		next += len(kid.nodes)
	}
	x.nodes = v[at:next]
	return x
}

// Asking, with every answer held against the chapter's words, P4, and what follows from the answer.

func short(x any) string { return fmt.Sprintf("%.700q", fmt.Sprintf("%+v", x)) }

// fields: the claims without the value, and with an empty list for none.
func fields(c api.Claims) api.Claims {
	c.Value, c.Aud = nil, append([]string{}, c.Aud...)
	return c
}

func same(a, b api.Claims) bool {
	return slices.Equal(a.Value, b.Value) && reflect.DeepEqual(fields(a), fields(b))
}

func zero(x any) bool { return reflect.ValueOf(x).IsZero() }

// holdTokens: 21.1, and there and back by General.
func holdTokens(t *testing.T, text string) ([]string, api.Errno) {
	t.Helper()
	wanted, wantCode := wantTokens(text)
	l, code := serial.Tokens(text)
	if code != wantCode || !slices.Equal(l, wanted) {
		t.Fatalf("21.1: Tokens(%.900q) = %s, %d, want %s, %d", text, short(l), int(code), short(wanted), int(wantCode))
	}
	if code != api.OK {
		return l, code
	}
	back, code := serial.General(l)
	wantBack, wantCode := wantGeneral(l)
	if back != wantBack || code != wantCode || code != api.OK && code != api.ErrLarge {
		t.Fatalf("21.2: General(%s) = %.900q, %d, want %.900q, %d", short(l), back, int(code), wantBack, int(wantCode))
	}
	if code == api.OK {
		if again, code := serial.Tokens(back); code != api.OK || !slices.Equal(again, l) {
			t.Fatalf("21.4: Tokens(%.900q) = %s, %d, of what is made of %s", back, short(again), int(code), short(l))
		}
	}
	return l, api.OK
}

// holdGeneral: 21.2, and there and back by Tokens.
func holdGeneral(t *testing.T, tokens []string) (string, api.Errno) {
	t.Helper()
	wanted, wantCode := wantGeneral(tokens)
	text, code := serial.General(tokens)
	if text != wanted || code != wantCode {
		t.Fatalf("21.2: General(%s) = %.900q, %d, want %.900q, %d", short(tokens), text, int(code), wanted, int(wantCode))
	}
	if code == api.OK {
		if l, code := holdTokens(t, text); code != api.OK || !slices.Equal(l, tokens) {
			t.Fatalf("21.4: Tokens(General(%s)) = %s, %d", short(tokens), short(l), int(code))
		}
	}
	return text, code
}

// holdVerify: 21.3.
func holdVerify(t *testing.T, text, keys string, p api.Policy, now int64, want int) (api.Claims, []string, api.Errno) {
	t.Helper()
	wanted, wantKids, wantCode := wantVerify(text, keys, p, now, want)
	c, kids, code := serial.Verify(text, keys, p, now, want)
	if code != wantCode || !slices.Equal(kids, wantKids) || !same(c, wanted) {
		t.Fatalf("21.3: Verify(%.900q, %.900q, %s, %d, %d) = %s, %q, %d, want %s, %q, %d", text, keys, short(p), now, want, short(c), kids, int(code), short(wanted), wantKids, int(wantCode))
	}
	if code != api.OK && (!zero(c) || len(kids) != 0) {
		t.Fatalf("P4: Verify(%.900q, %.900q, %s, %d, %d) refuses, and answers %s, %q", text, keys, short(p), now, want, short(c), kids)
	}
	return c, kids, code
}

// mustTokens: just these, or just that code.
func mustTokens(t *testing.T, what, text string, wantCode api.Errno, wanted ...string) {
	t.Helper()
	if l, code := serial.Tokens(text); code != wantCode || !slices.Equal(l, wanted) {
		t.Fatalf("21.1: %s: Tokens(%.900q) = %s, %d, want %s, %d", what, text, short(l), int(code), short(wanted), int(wantCode))
	}
	holdTokens(t, text)
}

func mustGeneral(t *testing.T, what string, wantCode api.Errno, tokens ...string) string {
	t.Helper()
	if _, code := serial.General(tokens); code != wantCode {
		t.Fatalf("21.2: %s: General(%s) = %d, want %d", what, short(tokens), int(code), int(wantCode))
	}
	text, _ := holdGeneral(t, tokens)
	return text
}

// mustVerify: just these kids, or just that code.
func mustVerify(t *testing.T, what, text, keys string, p api.Policy, now int64, want int, wantCode api.Errno, wantKids ...string) api.Claims {
	t.Helper()
	c, kids, code := serial.Verify(text, keys, p, now, want)
	if code != wantCode || !slices.Equal(kids, wantKids) {
		t.Fatalf("21.3: %s: Verify(%.900q, %.900q, %s, %d, %d) = %q, %d, want %q, %d", what, text, keys, short(p), now, want, kids, int(code), wantKids, int(wantCode))
	}
	holdVerify(t, text, keys, p, now, want)
	return c
}

// mustKids: just these kids hold: enough for each want up to their number, and too few for each greater one.
func mustKids(t *testing.T, what, text, keys string, p api.Policy, now int64, wantKids ...string) {
	t.Helper()
	for want := 1; want <= 16; want++ {
		if want <= len(wantKids) {
			mustVerify(t, what, text, keys, p, now, want, api.OK, wantKids...)
		} else {
			mustVerify(t, what, text, keys, p, now, want, api.ErrFew)
		}
	}
}
