package serial_test

import (
	"fmt"
	"slices"
	"strings"
	"testing"

	"signet/api"
	"signet/jwt"
	"signet/serial"
)

// body: a payload; asked: the policy that lets it by, at the clocks from 990 to 2009.
const body = `{"iss":"me","sub":"it","aud":["us","you"],"exp":2000,"nbf":1000,"iat":900,"jti":"1"}`

func asked() api.Policy {
	return api.Policy{Algs: append([]string{"none"}, namesOfAll()...), Iss: "me", HasIss: true, Aud: "you", HasAud: true, Leeway: 10, Need: []string{"exp", "jti"}}
}

// mustSay: the claims are the body's.
func mustSay(t *testing.T, c api.Claims) {
	t.Helper()
	if c.Iss != "me" || c.Sub != "it" || c.Jti != "1" || !slices.Equal(c.Aud, []string{"us", "you"}) || c.Exp.At != 2000 || c.Nbf.At != 1000 || c.Iat.At != 900 || len(c.Value) != 10 {
		t.Fatalf("21.3: the claims %s", short(c))
	}
}

// All twelve algorithms sign one payload; each counts, and the policy's list counts for each by itself.
func TestTwelve(t *testing.T) {
	t.Parallel()
	var hands []hand
	var kids []string
	for _, c := range rows {
		hands = append(hands, hand{c, c.name, signerFor(c)})
		kids = append(kids, c.name)
	}
	slices.Sort(kids)
	text, keys := generalText(tokensOf(body, hands...)...), setOf(hands...)
	p := asked()
	mustSay(t, mustVerify(t, "twelve", text, keys, p, 1500, 12, api.OK, kids...))
	mustVerify(t, "twelve", text, keys, p, 1500, 1, api.OK, kids...)
	mustVerify(t, "twelve", text, keys, p, 1500, 13, api.ErrFew)
	for i, h := range hands {
		p.Algs = []string{h.name}
		mustSay(t, mustVerify(t, h.name, text, keys, p, 1500, 1, api.OK, h.kid))
		mustVerify(t, h.name, text, keys, p, 1500, 2, api.ErrFew)
		mustVerify(t, h.name+" alone", flattened(h.token(body)), keys, asked(), 1500, 1, api.OK, h.kid)
		// Signed by another key of the same type, if it has one.
		other := hands[i]
		other.by = otherSigner(h.row)
		mustVerify(t, h.name+" of another key", flattened(other.token(body)), keys, asked(), 1500, 1, api.ErrFew)
	}
	p.Algs = []string{"none", "hs256", ""}
	mustVerify(t, "none of them", text, keys, p, 1500, 1, api.ErrFew)
	p.Algs = nil
	mustVerify(t, "nothing listed", text, keys, p, 1500, 1, api.ErrFew)
}

// otherSigner: another key for the algorithm.
func otherSigner(c row) signer {
	switch c.kty {
	case api.Oct:
		return octSigner(65)
	case api.RSA:
		return map[bool]signer{true: signers()["PS"], false: signers()["RS"]}[c.name[0] == 'R']
	case api.EC:
		return ecSigner(c.crv)
	}
	return edSigner(77)
}

// MaxSigs keys may be wanted, and no more.
func TestWant(t *testing.T) {
	t.Parallel()
	var hands []hand
	var kids []string
	for i := range 16 {
		kids = append(kids, fmt.Sprint("k", i))
		hands = append(hands, secretHand(i, kids[i]))
	}
	keys := setOf(hands...)
	for n := 1; n <= 16; n++ {
		sorted := slices.Sorted(slices.Values(kids[:n]))
		mustKids(t, "so many", generalText(tokensOf(body, hands[:n]...)...), keys, asked(), 1500, sorted...)
	}
	text := generalText(tokensOf(body, hands...)...)
	for _, want := range []int{low, low + 1, -1 << 32, -16, -1, 0, 17, 18, 1 << 31, 1 << 32, 1<<32 + 1, 1<<32 + 16, high} {
		mustVerify(t, "no want", text, keys, asked(), 1500, want, api.ErrPolicy)
	}
}

// ErrPolicy is told ahead of the text's faults, these ahead of the keys that hold.
func TestOrder(t *testing.T) {
	t.Parallel()
	h := secretHand(0, "a")
	keys := setOf(h)
	long := strings.Repeat(" ", 262145)
	texts := map[string]api.Errno{
		flattened(h.token(body)): api.OK, "": api.ErrJson, "{}": api.ErrSerial, generalOf("x"): api.ErrSerial, long: api.ErrLarge, `{"a":1,"a":1}`: api.ErrTwice, "[\"\xff": api.ErrUtf8, `"\q"`: api.ErrEscape, strings.Repeat("[", 33): api.ErrDeep,
		flattened("a.b.c"): api.ErrFew, flattenedOf("", "", ""): api.ErrFew,
	}
	for text, code := range texts {
		var kids []string
		if code == api.OK {
			kids = []string{"a"}
		}
		mustVerify(t, "text", text, keys, asked(), 1500, 1, code, kids...)
		for _, leeway := range []int64{low, -1, 601, 1<<32 + 5, high} {
			p := asked()
			p.Leeway = leeway
			mustVerify(t, "no leeway", text, keys, p, 1500, 1, api.ErrPolicy)
			mustVerify(t, "no leeway, no want", text, long, p, 1500, 0, api.ErrPolicy)
		}
		for _, leeway := range []int64{0, 1, 599, 600} {
			p := asked()
			p.Leeway = leeway
			mustVerify(t, "a leeway", text, keys, p, 1500, 1, code, kids...)
		}
		mustVerify(t, "no want", text, keys, asked(), 1500, 17, api.ErrPolicy)
		if code == api.OK {
			code = api.ErrFew
		}
		for _, no := range []string{"", "{}", "[]", "null", `{"keys":{}}`, `{"keys":[1]}`, `{"keys":[]}`, `{"keys":[],"keys":[]}`, `{"keys":[{}]}`, set(h.entry(), `{"kid":"z"}`), set(h.entry(), h.entry()), keys + "x", keys + long, long} {
			mustVerify(t, "no key set", text, no, asked(), 1500, 1, code)
		}
	}
	mustVerify(t, "a key set at MaxKeys", flattened(h.token(body)), keys+strings.Repeat(" ", 262144-len(keys)), asked(), 1500, 1, api.OK, "a")
	mustVerify(t, "a key set past MaxKeys", flattened(h.token(body)), keys+strings.Repeat(" ", 262145-len(keys)), asked(), 1500, 1, api.ErrFew)
	text := generalText(h.token(body))
	mustVerify(t, "a text at MaxKeys", text+strings.Repeat(" ", 262144-len(text)), keys, asked(), 1500, 1, api.OK, "a")
	mustVerify(t, "a text past MaxKeys", text+strings.Repeat(" ", 262145-len(text)), keys, asked(), 1500, 1, api.ErrLarge)
}

// Kids are told sorted by their bytes, whatever order the signatures, the keys or other orders of texts would have.
func TestKidOrder(t *testing.T) {
	t.Parallel()
	kids := []string{"", "\x00", " ", "0", "00", "10", "9", "A", "Z", "a", "a\x00", "aa", "~", "é", "\uffff", "\U00010000"}
	var hands []hand
	for i, kid := range kids {
		hands = append(hands, secretHand(i, kid))
	}
	keys := setOf(hands...)
	for _, turn := range []int{0, 1, 5, 11} {
		l := tokensOf(body, append(slices.Clone(hands[turn:]), hands[:turn]...)...)
		mustVerify(t, "turned", generalText(l...), keys, asked(), 1500, 16, api.OK, kids...)
		slices.Reverse(l)
		mustVerify(t, "turned back", generalText(l...), keys, asked(), 1500, 16, api.OK, kids...)
		mustVerify(t, "some", generalText(l[3:9]...), keys, asked(), 1500, 6, api.OK, slices.Sorted(slices.Values(kidsOf(l[3:9])))...)
	}
}

func kidsOf(tokens []string) []string {
	var l []string
	for _, token := range tokens {
		l = append(l, kidOf(token))
	}
	return l
}

// Kids count by their bytes: one that is spelled in two ways is one; those that look alike are two; so is one key under two kids.
func TestUnlikeKids(t *testing.T) {
	t.Parallel()
	a := secretHand(0, "a")
	head := func(kid string) string { return `{"alg":"HS256","kid":` + kid + `}` }
	one := []string{a.token(body), a.tokenOf(head(`"\u0061"`), body), a.tokenOf(head(` "a" `), body), a.tokenOf(`{"kid":"a","alg":"HS256"}`, body), a.tokenOf(`{"alg":"HS256","kid":"a","typ":"x"}`, body), a.tokenOf(`{"alg":"HS256","kid":"a","typ":"JWT"}`, body)}
	mustKids(t, "one kid in many spellings", generalText(one...), setOf(a), asked(), 1500, "a")
	h384, h512 := a, a
	h384.row, h512.row = rows[1], rows[2]
	mustKids(t, "one kid, three algorithms", generalText(tokensOf(body, a, h384, h512)...), setOf(a), asked(), 1500, "a")
	mustKids(t, "one kid, and another", generalText(tokensOf(body, a, secretHand(1, "b"), h512, a)...), setOf(a, secretHand(1, "b")), asked(), 1500, "a", "b")
	for _, c := range []row{rows[6], rows[9], rows[10]} {
		h := hand{c, "k", signerFor(c)}
		first, second := h.token(body), h.token(body)
		if first == second {
			t.Fatalf("%s: two signatures are the same", c.name)
		}
		mustVerify(t, c.name+", two signatures of one key", generalText(first, second), setOf(h), asked(), 1500, 2, api.ErrFew)
		mustVerify(t, c.name+", two signatures of one key", generalText(first, second), setOf(h), asked(), 1500, 1, api.OK, "k")
	}
	var alike []hand
	kids := []string{"A", "a", "a\x00", "a ", "e\u0301", "\u00e9"}
	for _, kid := range kids {
		h := secretHand(0, kid)
		alike = append(alike, h)
	}
	mustKids(t, "one key under many kids", generalText(tokensOf(body, alike...)...), setOf(alike...), asked(), 1500, kids...)
	// A token that holds under one kid holds under no other.
	b := secretHand(1, "b")
	stolen := strings.Replace(a.token(body), signs([]byte(head(`"a"`))), signs([]byte(head(`"b"`))), 1)
	mustKids(t, "a signature under another kid", generalText(a.token(body), stolen), setOf(a, b), asked(), 1500, "a")
}

// reason: why a token does not hold.
type reason struct {
	what  string
	token string
	code  api.Errno
}

// reasons: one of each refusal that header, key and signature know, over one payload; and the key set beside.
func reasons() ([]reason, []string) {
	a, short, ec, rs := secretHand(0, "a"), hand{rows[2], "short", octSigner(63)}, hand{rows[9], "ec", signers()["ES256"]}, hand{rows[3], "rs", signers()["RS"]}
	entry := func(kid string, more ...member) string {
		return object(append(append([]member{{"kid", quoted(kid)}}, a.by.members...), more...)...)
	}
	entries := []string{
		a.entry(), short.entry(), entry("two"), entry("two"), entry("enc", member{"use", `"enc"`}), entry("other", member{"alg", `"HS512"`}), entry("ops", member{"key_ops", `["sign"]`}),
		object(append([]member{{"kid", `"ec"`}, {"d", `"x"`}}, ec.by.members...)...), `{"kty":"oct","kid":"bare"}`, `{"kty":"oct","kid":"bad","k":"+"}`, `{"kty":"what","kid":"what"}`, rs.entry(),
	}
	head := func(kid string) string { return `{"alg":"HS256","kid":` + quoted(kid) + `}` }
	pay := signs([]byte(body))
	cut := func(token string) string { return token[:strings.LastIndex(token, ".")+1] }
	flipped := a.token(body)
	flipped = flipped[:len(flipped)-20] + map[bool]string{true: "B", false: "A"}[flipped[len(flipped)-20] == 'A'] + flipped[len(flipped)-19:]
	return []reason{
		{"a header's sign", a.signed(signs([]byte(head("a"))) + "=." + pay), api.ErrSign}, {"a header's length", a.signed("e" + "." + pay), api.ErrLen}, {"a header's bits", a.signed("YR." + pay), api.ErrBits},
		{"no header", a.signed("." + pay), api.ErrJson}, {"a header's text", a.tokenOf(head("a")+"x", body), api.ErrJson}, {"kid twice", a.tokenOf(`{"alg":"HS256","kid":"a","kid":"a"}`, body), api.ErrTwice},
		{"crit", a.tokenOf(`{"alg":"HS256","kid":"a","crit":["exp"]}`, body), api.ErrHeader}, {"no kid", a.tokenOf(`{"alg":"HS256"}`, body), api.ErrHeader}, {"none", a.tokenOf(`{"alg":"none","kid":"a"}`, body), api.ErrAlg}, {"none, without a signature", cut(a.tokenOf(`{"alg":"none","kid":"a"}`, body)), api.ErrAlg},
		{"an algorithm that is not listed", hand{rows[1], "a", a.by}.token(body), api.ErrBarred}, {"no such key", secretHand(0, "b").token(body), api.ErrNoKey}, {"two such keys", secretHand(0, "two").token(body), api.ErrKeys},
		{"a key of another use", secretHand(0, "enc").token(body), api.ErrBinding}, {"of another algorithm", secretHand(0, "other").token(body), api.ErrBinding}, {"for other things", secretHand(0, "ops").token(body), api.ErrBinding}, {"of another type", secretHand(0, "rs").token(body), api.ErrBinding}, {"of no type", secretHand(0, "what").token(body), api.ErrBinding}, {"RS under a secret", hand{rows[3], "a", rs.by}.token(body), api.ErrBinding},
		{"a private key", ec.token(body), api.ErrSecret}, {"a key without parts", secretHand(0, "bare").token(body), api.ErrMember}, {"a key with a bad part", secretHand(0, "bad").token(body), api.ErrKey}, {"a short secret", short.token(body), api.ErrKey},
		{"a signature's sign", a.token(body) + "=", api.ErrSign}, {"another signature", secretHand(3, "a").token(body), api.ErrSignature}, {"no signature", cut(a.token(body)), api.ErrSignature}, {"a bit of it", flipped, api.ErrSignature}, {"one for another payload", cut(a.token(body)) + a.token("{}")[strings.LastIndex(a.token("{}"), ".")+1:], api.ErrSignature},
		{"too long", a.tokenOf(head("a")+strings.Repeat(" ", 50000), body), api.ErrLarge},
	}, entries
}

// A token that does not hold, for whatever reason, counts for nothing, and the reason is not told; it spoils no other.
func TestReasons(t *testing.T) {
	t.Parallel()
	l, entries := reasons()
	p := asked()
	p.Algs = []string{"HS256", "HS512", "RS256", "ES256", "none"}
	rs := hand{rows[3], "rs", signers()["RS"]}
	good := []string{secretHand(0, "a").token(body), rs.token(body)}
	keys := set(entries...)
	for _, x := range l {
		if _, code := jwt.Verify(x.token, keys, p, 1500); code != x.code {
			t.Fatalf("%s: jwt.Verify = %d, want %d", x.what, int(code), int(x.code))
		}
		mustVerify(t, x.what+", alone", flattened(x.token), keys, p, 1500, 1, api.ErrFew)
		mustVerify(t, x.what+", twice", generalText(x.token, x.token), keys, p, 1500, 1, api.ErrFew)
		for _, tokens := range [][]string{{x.token, good[0], good[1]}, {good[1], x.token, good[0]}, {good[0], good[1], x.token}} {
			mustSay(t, mustVerify(t, x.what+", among others", generalText(tokens...), keys, p, 1500, 2, api.OK, "a", "rs"))
			mustVerify(t, x.what+", among others", generalText(tokens...), keys, p, 1500, 3, api.ErrFew)
		}
	}
	for len(l) > 0 {
		n := min(len(l), 15)
		text := good[0]
		var tokens []string
		for _, x := range l[:n] {
			tokens = append(tokens, x.token)
		}
		if len(generalText(tokens...)) < 200000 {
			mustSay(t, mustVerify(t, "all of them, and one", generalText(append(tokens, text)...), keys, p, 1500, 1, api.OK, "a"))
			mustVerify(t, "all of them, and one", generalText(append(tokens, text)...), keys, p, 1500, 2, api.ErrFew)
		}
		l = l[n:]
	}
}

// What is wrong with the payload is wrong with all tokens: none holds.
func TestPayloads(t *testing.T) {
	t.Parallel()
	a, b := secretHand(0, "a"), secretHand(1, "b")
	keys := setOf(a, b)
	for _, x := range []struct {
		pay  string
		code api.Errno
	}{
		{"", api.ErrJson}, {"{", api.ErrJson}, {"[]", api.ErrClaims}, {"null", api.ErrClaims}, {`{"exp":"2000"}`, api.ErrClaim}, {`{"sub":1}`, api.ErrClaim}, {`{"exp":2000}`, api.ErrMissing}, {strings.Replace(body, `"me"`, `"you"`, 1), api.ErrIss}, {strings.Replace(body, `"you"`, `"me"`, 1), api.ErrAud},
		{strings.Replace(body, "2000", "1490", 1), api.ErrExpired}, {strings.Replace(body, "2000", "1491", 1), api.OK}, {strings.Replace(body, "1000", "1511", 1), api.ErrEarly}, {strings.Replace(body, "1000", "1510", 1), api.OK}, {strings.Replace(body, "900", "1511", 1), api.ErrFuture}, {strings.Replace(body, "900", "1510", 1), api.OK},
		{strings.Replace(body, "2000", "9223372036854775807", 1), api.OK}, {strings.Replace(body, "2000", "-9223372036854775808", 1), api.ErrExpired}, {body + strings.Repeat(" ", 50000), api.ErrLarge},
	} {
		tokens := tokensOf(x.pay, a, b)
		if _, code := jwt.Verify(tokens[0], keys, asked(), 1500); code != x.code {
			t.Fatalf("%s: jwt.Verify = %d, want %d", x.pay, int(code), int(x.code))
		}
		if x.code == api.OK {
			mustKids(t, "a payload", generalText(tokens...), keys, asked(), 1500, "a", "b")
		} else {
			mustKids(t, "a payload", generalText(tokens...), keys, asked(), 1500)
		}
	}
	for _, raw := range []string{"!", "YR", "Y", "e30=", "é", "\"", "\n"} {
		text := generalText(a.signed(signs([]byte(`{"alg":"HS256","kid":"a"}`)) + "." + raw))
		mustVerify(t, "no base64url", text, keys, asked(), 1500, 1, api.ErrFew)
	}
}

// The clock, at the ends of the times and of all clocks.
func TestClock(t *testing.T) {
	t.Parallel()
	a, b := secretHand(0, "a"), secretHand(1, "b")
	text, keys := generalText(tokensOf(body, b, a)...), setOf(a, b)
	for now, ok := range map[int64]bool{low: false, 0: false, 989: false, 990: true, 991: true, 2008: true, 2009: true, 2010: false, high: false} {
		if ok {
			mustKids(t, "in time", text, keys, asked(), now, "a", "b")
		} else {
			mustKids(t, "out of time", text, keys, asked(), now)
		}
	}
	text = generalText(tokensOf(`{}`, b, a)...)
	for _, now := range []int64{low, -1, 0, 1, high} {
		mustKids(t, "without times", text, keys, api.Policy{Algs: namesOfAll()}, now, "a", "b")
	}
}

// Of tokens of one payload one may be at MaxToken and hold, and another one byte past it.
func TestMaxToken(t *testing.T) {
	t.Parallel()
	at, past := secretHand(0, "at"), secretHand(0, "pas")
	keys := setOf(at, past)
	pay := body
	for short := 65536 - len(at.token(pay)); short > 0; short = 65536 - len(at.token(pay)) {
		pay += strings.Repeat(" ", max(1, short*3/4-2))
	}
	if len(at.token(pay)) != 65536 || len(past.token(pay)) != 65537 {
		t.Fatalf("tokens of %d and %d bytes", len(at.token(pay)), len(past.token(pay)))
	}
	mustKids(t, "one at MaxToken, one past it", generalText(past.token(pay), at.token(pay)), keys, asked(), 1500, "at")
	mustVerify(t, "past MaxToken, alone", flattened(past.token(pay)), keys, asked(), 1500, 1, api.ErrFew)
	mustVerify(t, "at MaxToken, alone", flattened(at.token(pay)), keys, asked(), 1500, 1, api.OK, "at")
}

// 21.5: of a flattened form and want 1 Verify answers what jwt.Verify does of its token.
func TestFlattened(t *testing.T) {
	t.Parallel()
	l, entries := reasons()
	l = append(l, reason{"right", secretHand(0, "a").token(body), api.OK}, reason{"right", hand{rows[3], "rs", signers()["RS"]}.token(body), api.OK})
	keys := set(entries...)
	for _, x := range l {
		for _, now := range []int64{989, 990, 2009, 2010} {
			wanted, wantCode := jwt.Verify(x.token, keys, asked(), now)
			c, kids, code := serial.Verify(flattened(x.token), keys, asked(), now, 1)
			if (code == api.OK) != (wantCode == api.OK) || code != api.OK && code != api.ErrFew || !same(c, wanted) || code == api.OK && (len(kids) != 1 || kids[0] != kidOf(x.token)) {
				t.Fatalf("21.5: %s, at %d: %s, %q, %d, and jwt.Verify %s, %d", x.what, now, short(c), kids, int(code), short(wanted), int(wantCode))
			}
			mustVerify(t, "more than one", flattened(x.token), keys, asked(), now, 2, api.ErrFew)
			mustVerify(t, "as many as may be", flattened(x.token), keys, asked(), now, 16, api.ErrFew)
		}
	}
}
