package header_test

import (
	"strings"
	"testing"

	"signet/api"
)

// near: texts that differ from one in a byte, in case, or by a byte more or less; none of them needs an escape.
func near(s string) []string {
	out := []string{strings.ToLower(s), strings.ToUpper(s), s + s, " " + s, s + " ", "", "ａlg"}
	for i := range len(s) {
		out = append(out, s[:i], s[i:], s[:i]+s[i+1:], s[:i]+s[i:i+1]+s[i:])
		for c := range 128 {
			if c >= 32 && c != '"' && c != '\\' {
				out = append(out, s[:i]+string([]byte{byte(c)})+s[i+1:])
			}
		}
	}
	return out
}

// The rows of the chapter's table.
func TestExamples(t *testing.T) {
	t.Parallel()
	mustRead(t, `{"alg":"HS256","kid":"k"}`, api.Header{Alg: api.HS256, Kid: "k"})
	mustRead(t, `{"kid":"","\u0061lg":"ES384","typ":"JWT"}`, api.Header{Alg: api.ES384, Typ: "JWT", HasTyp: true})
	for _, text := range []string{`{}`, `[]`, `{"alg":"none"}`, `{"alg":"none","kid":"k","crit":["exp"]}`, `{"alg":"HS256","kid":1}`, `{"alg":"HS256","kid":"k","typ":null}`} {
		mustParse(t, api.ErrHeader, text)
	}
	for _, alg := range []string{"none", "None", "hs256", `HS256\u0000`, ""} {
		mustParse(t, api.ErrAlg, `{"alg":"`+alg+`","kid":"k"}`)
	}
	mustParse(t, api.ErrTwice, `{"alg":"HS256","\u0061lg":"none","kid":"k"}`)
	mustParse(t, api.ErrJson, "")
	p := api.Policy{Algs: []string{"none", "HS256", "none", "HS256"}}
	mustAllow(t, api.OK, p, api.Header{Alg: api.HS256})
	mustAllow(t, api.ErrBarred, p, api.Header{Alg: api.HS512})
	p.HasTyp, p.Typ = true, "JWT"
	mustAllow(t, api.ErrTyp, p, api.Header{Alg: api.HS256})
	mustAllow(t, api.ErrTyp, p, api.Header{Alg: api.HS256, HasTyp: true, Typ: "jwt"})
	mustAllow(t, api.OK, p, api.Header{Alg: api.HS256, HasTyp: true, Typ: "JWT"})
}

// Each member, in each order, spelled as it likes.
func TestOrders(t *testing.T) {
	t.Parallel()
	for i, name := range names {
		two := api.Header{Alg: algs[i], Kid: "é \x00"}
		three := two
		three.HasTyp, three.Typ = true, "at+jwt"
		a, k, y := `"alg":"`+name+`"`, `"kid":"\u00e9 \u0000"`, `"t\u0079p" : "at\u002bjwt"`
		for _, text := range []string{a + "," + k, k + " ,\n\t" + a} {
			mustRead(t, "{"+text+"}", two)
		}
		for _, parts := range [][]string{{a, k, y}, {a, y, k}, {k, a, y}, {k, y, a}, {y, a, k}, {y, k, a}} {
			mustRead(t, " { "+strings.Join(parts, " , ")+" } \r\n", three)
		}
	}
}

// What stands in one text leaves the other fields as they are: empty texts too.
func TestFields(t *testing.T) {
	t.Parallel()
	mustRead(t, `{"alg":"RS512","kid":""}`, api.Header{Alg: api.RS512})
	mustRead(t, `{"alg":"RS512","kid":"","typ":""}`, api.Header{Alg: api.RS512, HasTyp: true})
	mustRead(t, `{"alg":"RS512","kid":"typ","typ":"kid"}`, api.Header{Alg: api.RS512, Kid: "typ", Typ: "kid", HasTyp: true})
	mustRead(t, `{"alg":"PS256","kid":"PS384","typ":"none"}`, api.Header{Alg: api.PS256, Kid: "PS384", Typ: "none", HasTyp: true})
	mustRead(t, `{"alg":"EdDSA","kid":"\ud83d\ude00\"\\\/"}`, api.Header{Alg: api.EdDSA, Kid: "\U0001f600\"\\/"})
}

// Every choice of what the three members are: not there, of each kind, a string.
func TestKinds(t *testing.T) {
	t.Parallel()
	values := []string{"", `null`, `false`, `true`, `0`, `-1.5e3`, `[]`, `["HS256"]`, `{}`, `{"alg":"HS256","kid":"k"}`, `"HS256"`, `""`, `"none"`}
	for _, alg := range values {
		for _, kid := range values {
			for _, typ := range values {
				for _, more := range []string{"", `"HS256"`, `null`} {
					var parts []string
					for _, m := range [][2]string{{"alg", alg}, {"kid", kid}, {"typ", typ}, {"crit", more}} {
						if m[1] != "" {
							parts = append(parts, `"`+m[0]+`":`+m[1])
						}
					}
					text := "{" + strings.Join(parts, ",") + "}"
					want := api.ErrHeader
					if isText(alg) && isText(kid) && (typ == "" || isText(typ)) && more == "" {
						want = api.ErrAlg
						if alg == `"HS256"` {
							want = api.OK
						}
					}
					mustParse(t, want, text)
				}
			}
		}
	}
}

func isText(s string) bool { return strings.HasPrefix(s, `"`) }

// A value that is no object is no header, whatever is in it.
func TestNoObject(t *testing.T) {
	t.Parallel()
	for _, text := range []string{`null`, `false`, `true`, `0`, `12`, `""`, `"alg"`, `"{\"alg\":\"HS256\",\"kid\":\"k\"}"`, `[]`, `["HS256","k"]`, `["alg","HS256","kid","k"]`, `[{"alg":"HS256","kid":"k"}]`, `[[]]`} {
		mustParse(t, api.ErrHeader, text)
	}
}

// Any other member is too much, whatever the alg is, and wherever it stands.
func TestOtherMembers(t *testing.T) {
	t.Parallel()
	others := []string{"crit", "b64", "jku", "jwk", "x5u", "x5c", "x5t", "x5t#S256", "cty", "enc", "zip", "iss", "exp", "", "url", "nonce"}
	for _, name := range []string{"alg", "kid", "typ"} {
		others = append(others, near(name)...)
	}
	for _, name := range others {
		if name == "alg" || name == "kid" || name == "typ" {
			continue
		}
		for _, alg := range []string{"HS256", "none"} {
			other, a, k := `"`+name+`":"JWT"`, `"alg":"`+alg+`"`, `"kid":"k"`
			for _, parts := range [][]string{{other, a, k}, {a, other, k}, {a, k, other}, {a, k, `"typ":"JWT"`, other}} {
				mustParse(t, api.ErrHeader, "{"+strings.Join(parts, ",")+"}")
			}
			// A member of nearly the name is not the member.
			mustParse(t, api.ErrHeader, "{"+other+","+a+"}")
			mustParse(t, api.ErrHeader, "{"+other+","+k+"}")
		}
	}
}

// A member that stands deeper is none of the header.
func TestDeeper(t *testing.T) {
	t.Parallel()
	for _, text := range []string{`{"alg":"HS256","typ":{"kid":"k"}}`, `{"alg":{"alg":"HS256"},"kid":"k"}`, `{"":{"alg":"HS256","kid":"k"}}`, `{"alg":"HS256","kid":["k"]}`, `{"kid":"k","typ":["alg","HS256"]}`} {
		mustParse(t, api.ErrHeader, text)
	}
}

// Byte by byte: nothing but a name itself is the name.
func TestAlgNames(t *testing.T) {
	t.Parallel()
	others := strings.Fields("ES512 ES256K RS1 HS1 Ed25519 Ed448 RSA-OAEP dir A128KW 1 12 256 HS256,RS256 ML-DSA-44 ＨＳ256")
	for mask := range 16 {
		word := []byte("none")
		for i := range word {
			word[i] -= byte(mask>>i&1) * 32
		}
		others = append(others, string(word))
	}
	for _, name := range names {
		others = append(others, near(name)...)
		others = append(others, name+`\u0000`, `\u0000`+name, name+`\n`)
	}
	for _, s := range append(others, strings.Repeat("HS256", 1000)) {
		_, code := holdParse(t, `{"alg":"`+s+`","kid":"k"}`)
		known := false
		for _, name := range names {
			known = known || name == s
		}
		if (code == api.OK) != known || !known && code != api.ErrAlg {
			t.Errorf("17.1: alg %q: %d", s, int(code))
		}
	}
}

// json's codes stand ahead of all others, wherever the fault stands.
func TestJsonFirst(t *testing.T) {
	t.Parallel()
	for _, begin := range []string{`{"alg":"HS256","kid":"k"`, `{"alg":"none","kid":"k"`, `{"alg":7,"crit":[]`, `{"x":0`, `{"alg":"none","jwk":{}`} {
		for more, want := range map[string]api.Errno{
			``: api.ErrJson, `,`: api.ErrJson, `]`: api.ErrJson, `}}`: api.ErrJson, `} x`: api.ErrJson, `,}`: api.ErrJson, `,"y":01}`: api.ErrJson, "\xff}": api.ErrJson,
			`,"y":"` + "\xff" + `"}`: api.ErrUtf8, "," + `"y` + "\xc0\x80" + `":1}`: api.ErrUtf8,
			`,"y":"\ud800"}`: api.ErrEscape, `,"y":"\x"}`: api.ErrEscape, `,"\u00g0":1}`: api.ErrEscape,
			`,"y":1,"y":2}`: api.ErrTwice, `,"typ":{"a":1,"\u0061":2}}`: api.ErrTwice,
			`,"y":` + strings.Repeat("[", 32): api.ErrDeep, `,"y":` + strings.Repeat(`{"":`, 32): api.ErrDeep,
		} {
			mustParse(t, want, begin+more)
		}
	}
	for _, name := range []string{"alg", "kid", "typ"} {
		mustParse(t, api.ErrTwice, `{"alg":"HS256","kid":"k","typ":"","`+name+`":"HS256"}`)
		mustParse(t, api.ErrTwice, `{"alg":"none","kid":0,"typ":"","\u00`+hex(name[0])+name[1:]+`":"HS256"}`)
	}
	// As deep as may be, it is a member of the wrong kind.
	mustParse(t, api.ErrHeader, `{"alg":"HS256","kid":"k","typ":`+strings.Repeat("[", 31)+strings.Repeat("]", 31)+`}`)
	mustParse(t, api.ErrDeep, `{"alg":"HS256","kid":"k","typ":`+strings.Repeat("[", 32)+strings.Repeat("]", 32)+`}`)
}

func hex(b byte) string { return string([]byte{"0123456789abcdef"[b>>4], "0123456789abcdef"[b&15]}) }

// MaxKeys: taken at it, ErrLarge one past it, ahead of all that the text is.
func TestLargeTexts(t *testing.T) {
	t.Parallel()
	const bare = `{"alg":"HS256","kid":""}`
	for _, n := range []int{1 << 16, 1<<16 + 1, api.MaxKeys - 1, api.MaxKeys} {
		kid := strings.Repeat("k", n-len(bare))
		mustRead(t, `{"alg":"HS256","kid":"`+kid+`"}`, api.Header{Alg: api.HS256, Kid: kid})
		mustRead(t, strings.Repeat(" ", n-len(bare))+bare, api.Header{Alg: api.HS256})
		mustParse(t, api.ErrJson, strings.Repeat(" ", n))
	}
	for _, n := range []int{api.MaxKeys + 1, api.MaxKeys + 2, 3 * api.MaxKeys} {
		kid := strings.Repeat("k", n-len(bare))
		mustParse(t, api.ErrLarge, `{"alg":"HS256","kid":"`+kid+`"}`)
		mustParse(t, api.ErrLarge, `{"alg":"none" ,"kid":"`+kid+`":`)
		mustParse(t, api.ErrLarge, strings.Repeat(" ", n))
		mustParse(t, api.ErrLarge, strings.Repeat("[", n))
	}
}
