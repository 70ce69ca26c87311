package serial_test

import (
	"bytes"
	stdecdsa "crypto/ecdsa"
	"crypto/ed25519"
	"crypto/elliptic"
	stdhmac "crypto/hmac"
	"crypto/rsa"
	"encoding/base64"
	stdjson "encoding/json"
	"math/big"
	"math/rand"
	"slices"
	"strings"
	"testing"

	"signet/api"
	"signet/serial"
)

// A reader and a verifier over Go's own library.

// theirPair, theirForm: as Go's own library reads them. Names of members count by their case here: texts with others are not handed to it.
type theirPair struct {
	Protected *string `json:"protected"`
	Signature *string `json:"signature"`
}

type theirForm struct {
	Payload    *string      `json:"payload"`
	Protected  *string      `json:"protected"`
	Signature  *string      `json:"signature"`
	Signatures *[]theirPair `json:"signatures"`
}

// theirTokens: the compact tokens; false, if it is none of the two forms.
func theirTokens(text string) ([]string, bool) {
	var f theirForm
	d := stdjson.NewDecoder(strings.NewReader(text))
	d.DisallowUnknownFields()
	if d.Decode(&f) != nil || d.More() || f.Payload == nil {
		return nil, false
	}
	list := []theirPair{{f.Protected, f.Signature}}
	if f.Signatures != nil {
		if f.Protected != nil || f.Signature != nil {
			return nil, false
		}
		list = *f.Signatures
	}
	var l []string
	for _, x := range list {
		if x.Protected == nil || x.Signature == nil || strings.Contains(*x.Protected+*f.Payload+*x.Signature, ".") {
			return nil, false
		}
		l = append(l, strings.Join([]string{*x.Protected, *f.Payload, *x.Signature}, "."))
	}
	return l, len(l) >= 1 && len(l) <= 16
}

// Drawn forms, spoilt or not: the library reads the same tokens.
func TestTokensAgainstLibrary(t *testing.T) {
	t.Parallel()
	r := rand.New(rand.NewSource(6))
	took := 0
	for range 4000 {
		l := drawnTokens(r)
		text := pick(r, []string{generalText(l...), flattened(l[0])})
		text = spoilt(r, grown(text))
		got, code := serial.Tokens(text)
		if code == api.ErrTwice || strings.Contains(text, "null") { // the library takes the last of two, and nothing for null
			continue
		}
		theirs, ok := theirTokens(text)
		if ok != (code == api.OK) || !slices.Equal(got, theirs) && ok {
			t.Fatalf("21.1: Tokens(%.900q) = %s, %d, and by the library %s, %v", text, short(got), int(code), short(theirs), ok)
		}
		if ok {
			took++
		}
	}
	if took < 1000 || took > 3500 {
		t.Fatalf("%d were taken", took)
	}
}

// What General writes is what the library writes of the same, its signs for HTML apart.
func TestGeneralAgainstLibrary(t *testing.T) {
	t.Parallel()
	r := rand.New(rand.NewSource(7))
	type pairOut struct {
		Protected string `json:"protected"`
		Signature string `json:"signature"`
	}
	for range 2000 {
		l := drawnTokens(r)
		var out struct {
			Payload    string    `json:"payload"`
			Signatures []pairOut `json:"signatures"`
		}
		for _, token := range l {
			parts := strings.Split(token, ".")
			out.Payload = parts[1]
			out.Signatures = append(out.Signatures, pairOut{parts[0], parts[2]})
		}
		var b bytes.Buffer
		e := stdjson.NewEncoder(&b)
		e.SetEscapeHTML(false)
		must(0, e.Encode(out))
		theirs := strings.NewReplacer(`\\`, `\\`, `\u2028`, "\u2028", `\u2029`, "\u2029").Replace(strings.TrimSuffix(b.String(), "\n"))
		if text, code := serial.General(l); code != api.OK || text != theirs {
			t.Fatalf("21.2: General(%q) = %s, %d, and by the library %s", l, text, int(code), theirs)
		}
	}
}

type theirKey struct {
	Kty, Crv, K, N, E, X, Y, Kid string
}

func number(b []byte) *big.Int { return new(big.Int).SetBytes(b) }

// theyHold: is it a signature of the text, under the key?
func theyHold(k theirKey, c row, text string, sig []byte) bool {
	part := func(s string) []byte { return must(base64.RawURLEncoding.Strict().DecodeString(s)) }
	switch c.kty {
	case api.Oct:
		m := stdhmac.New(c.theirs().New, part(k.K))
		m.Write([]byte(text))
		return stdhmac.Equal(m.Sum(nil), sig)
	case api.OKP:
		return ed25519.Verify(part(k.X), []byte(text), sig)
	case api.EC:
		crv := elliptic.P256()
		if c.crv == api.P384 {
			crv = elliptic.P384()
		}
		pub := &stdecdsa.PublicKey{Curve: crv, X: number(part(k.X)), Y: number(part(k.Y))}
		return len(sig) == 2*c.size && stdecdsa.Verify(pub, c.sum(text), number(sig[:c.size]), number(sig[c.size:]))
	}
	pub := &rsa.PublicKey{N: number(part(k.N)), E: int(number(part(k.E)).Int64())}
	if c.alg >= api.PS256 {
		return rsa.VerifyPSS(pub, c.theirs(), c.sum(text), sig, &rsa.PSSOptions{SaltLength: rsa.PSSSaltLengthEqualsHash}) == nil
	}
	return rsa.VerifyPKCS1v15(pub, c.theirs(), c.sum(text), sig) == nil
}

// theirKids: of the signatures that hold by the library, of a payload that is let by.
func theirKids(text, keys string) []string {
	var l struct{ Keys []theirKey }
	must(0, stdjson.Unmarshal([]byte(keys), &l))
	tokens, _ := theirTokens(text)
	held := map[string]bool{}
	for _, token := range tokens {
		parts := strings.Split(token, ".")
		var h struct{ Alg, Kid string }
		must(0, stdjson.Unmarshal(must(base64.RawURLEncoding.DecodeString(parts[0])), &h))
		c := rows[slices.IndexFunc(rows, func(c row) bool { return c.name == h.Alg })]
		at := slices.IndexFunc(l.Keys, func(k theirKey) bool { return k.Kid == h.Kid })
		if at >= 0 && theyHold(l.Keys[at], c, parts[0]+"."+parts[1], must(base64.RawURLEncoding.DecodeString(parts[2]))) {
			held[h.Kid] = true
		}
	}
	var kids []string
	for kid := range held {
		kids = append(kids, kid)
	}
	slices.Sort(kids)
	return kids
}

// Signatures of all algorithms, some with a bit that is another one: the library takes the same.
func TestKidsAgainstLibrary(t *testing.T) {
	t.Parallel()
	r := rand.New(rand.NewSource(8))
	var hands []hand
	for _, c := range rows {
		hands = append(hands, hand{c, pick(r, []string{"x", "y", "é"}) + c.name, signerFor(c)})
	}
	keys := setOf(hands...)
	for range 30 {
		var tokens []string
		for range 1 + r.Intn(8) {
			token := []byte(pick(r, hands).token(body))
			if r.Intn(3) == 0 {
				at := bytes.LastIndexByte(token, '.') + 1 + r.Intn(20)
				token[at] = pick(r, []byte("AQgw-_09"))
			}
			tokens = append(tokens, string(token))
		}
		text := respelled(r, grown(generalText(tokens...)))
		kids := theirKids(text, keys)
		if len(kids) == 0 {
			mustVerify(t, "by the library none", text, keys, asked(), 1500, 1, api.ErrFew)
			continue
		}
		mustSay(t, mustVerify(t, "by the library", text, keys, asked(), 1500, len(kids), api.OK, kids...))
		mustVerify(t, "by the library", text, keys, asked(), 1500, len(kids)+1, api.ErrFew)
	}
}

// RFC 7515, A.6 and A.7: the kids stand in unprotected headers, so that these are no forms here; without them, their headers have no kid.
func TestFormsOfRfc7515(t *testing.T) {
	t.Parallel()
	const (
		payload = "eyJpc3MiOiJqb2UiLA0KICJleHAiOjEzMDA4MTkzODAsDQogImh0dHA6Ly9leGFtcGxlLmNvbS9pc19yb290Ijp0cnVlfQ"
		rs      = "eyJhbGciOiJSUzI1NiJ9"
		es      = "eyJhbGciOiJFUzI1NiJ9"
		esSig   = "DtEhU3ljbEg8L38VWAfUAqOyKAM6-Xx-F4GawxaepmXFCgfTjDxw5djxLa8ISlSApmWQxfKTUJqPP3-Kg6NU1Q"
	)
	a6 := `{"payload":"` + payload + `","signatures":[{"protected":"` + rs + `","header":{"kid":"2010-12-29"},"signature":"x"},{"protected":"` + es + `","header":{"kid":"e9bc097a-ce51-4036-9562-d2ade882db0d"},"signature":"` + esSig + `"}]}`
	a7 := `{"payload":"` + payload + `","protected":"` + es + `","header":{"kid":"e9bc097a-ce51-4036-9562-d2ade882db0d"},"signature":"` + esSig + `"}`
	mustTokens(t, "A.6", a6, api.ErrSerial)
	mustTokens(t, "A.7", a7, api.ErrSerial)
	key := `{"kty":"EC","crv":"P-256","kid":"e9bc097a-ce51-4036-9562-d2ade882db0d","x":"f83OJ3D2xF1Bg8vub9tLe1gHMzV76e8Tus9uPHvRVEU","y":"x_FEzRu9m36HLN_tue659LNpXW6pCyStikYjKIWI5a0"}`
	bare := flattenedOf(es, payload, esSig)
	mustTokens(t, "A.7 without its header", bare, api.OK, es+"."+payload+"."+esSig)
	mustVerify(t, "A.7", a7, set(key), api.Policy{Algs: namesOfAll()}, 0, 1, api.ErrSerial)
	mustVerify(t, "A.7 without its header", bare, set(key), api.Policy{Algs: namesOfAll()}, 0, 1, api.ErrFew)
	var k theirKey
	must(0, stdjson.Unmarshal([]byte(key), &k))
	if !theyHold(k, rows[9], es+"."+payload, must(base64.RawURLEncoding.DecodeString(esSig))) {
		t.Fatal("the library does not take the signature of A.7")
	}
}
