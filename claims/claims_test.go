package claims_test

import (
	"fmt"
	"slices"
	"strings"
	"testing"

	"signet/api"
	"signet/claims"
)

func at(n int64) api.Time { return api.Time{Has: true, At: n} }

// valuesOf: one of each kind, and further ones; the whole numbers, the texts and the lists of texts are marked as such.
var valuesOf = []struct {
	text               string
	isText, whole, aud bool
}{
	{text: `null`}, {text: `false`}, {text: `true`}, {text: `{}`}, {text: `{"a":"b"}`}, {text: `{"iss":"a"}`},
	{text: `""`, isText: true, aud: true}, {text: `"a"`, isText: true, aud: true}, {text: `"10"`, isText: true, aud: true}, {text: `"\u0000\ud83d\ude00"`, isText: true, aud: true}, {text: `"null"`, isText: true, aud: true},
	{text: `[]`, aud: true}, {text: ` [ ] `, aud: true}, {text: `["a"]`, aud: true}, {text: `["a","b","a",""]`, aud: true}, {text: `[1]`}, {text: `["a",1]`}, {text: `[1,"a"]`}, {text: `["a",null,"b"]`}, {text: `["a",["b"]]`}, {text: `[["a"]]`}, {text: `[[]]`}, {text: `["a",{}]`}, {text: `[{"a":"b"}]`}, {text: `[true]`}, {text: `["a",false]`},
	{text: `0`, whole: true}, {text: `-0`, whole: true}, {text: `1`, whole: true}, {text: `-1`, whole: true}, {text: `10`, whole: true}, {text: `9223372036854775807`, whole: true}, {text: `-9223372036854775808`, whole: true}, {text: `9223372036854775806`, whole: true}, {text: `-9223372036854775807`, whole: true},
	{text: `9223372036854775808`}, {text: `-9223372036854775809`}, {text: `18446744073709551616`}, {text: `18446744073709551617`}, {text: `100000000000000000000`}, {text: `1.0`}, {text: `1e3`}, {text: `1E3`}, {text: `1e0`}, {text: `0.0`}, {text: `-0.0`}, {text: `0e0`}, {text: `0e-0`}, {text: `10e-1`}, {text: `1.5`}, {text: `-1e+2`}, {text: `1e400`},
}

// The rows of the chapter's first table.
func TestExamples(t *testing.T) {
	t.Parallel()
	mustSay(t, `{"iss":"a","aud":["x","y"],"exp":10}`, api.Claims{Iss: "a", HasIss: true, Aud: []string{"x", "y"}, HasAud: true, Exp: at(10)})
	mustSay(t, `{}`, api.Claims{})
	mustSay(t, `{"exp":-0}`, api.Claims{Exp: at(0)})
	mustParse(t, api.ErrClaims, `[]`)
	mustParse(t, api.ErrClaims, `1`)
	for _, payload := range []string{`{"exp":1.0}`, `{"exp":1e3}`, `{"iat":9223372036854775808}`, `{"nbf":"1"}`, `{"aud":["x",1]}`, `{"iss":null}`} {
		mustParse(t, api.ErrClaim, payload)
	}
}

// All seven together, each in its own field; other members in none.
func TestFields(t *testing.T) {
	t.Parallel()
	all := api.Claims{Iss: "i", HasIss: true, Sub: "s", HasSub: true, Aud: []string{"a"}, HasAud: true, Jti: "j", HasJti: true, Exp: at(1), Nbf: at(2), Iat: at(3)}
	mustSay(t, `{"iss":"i","sub":"s","aud":"a","jti":"j","exp":1,"nbf":2,"iat":3}`, all)
	mustSay(t, ` { "x" : { "iss" : 1 , "exp" : "e" } , "iat" : 3 , "nbf" : 2 , "exp" : 1 , "y":[{"aud":7}], "jti" : "j" , "aud" : [ "a" ] , "sub" : "s" , "iss" : "i", "ISS":null, "":[[]] } `, all)
	mustSay(t, `{"\u0069ss":"\u0069","s\u0075b":"s","au\u0064":["\u0061"],"jt\u0069":"j","\u0065xp":1,"nb\u0066":2,"i\u0061t":3}`, all)
	mustSay(t, `{"iss":"","sub":"","aud":"","jti":"","exp":0,"nbf":0,"iat":0}`, api.Claims{HasIss: true, HasSub: true, Aud: []string{""}, HasAud: true, HasJti: true, Exp: at(0), Nbf: at(0), Iat: at(0)})
	mustSay(t, `{"iss":"sub","sub":"aud","aud":["jti","iss","iss"],"jti":"exp"}`, api.Claims{Iss: "sub", HasIss: true, Sub: "aud", HasSub: true, Aud: []string{"jti", "iss", "iss"}, HasAud: true, Jti: "exp", HasJti: true})
	mustSay(t, `{"aud":[]}`, api.Claims{HasAud: true})
	mustSay(t, `{"exp":9223372036854775807,"nbf":-9223372036854775808,"iat":-0}`, api.Claims{Exp: at(high), Nbf: at(low), Iat: at(0)})
	mustSay(t, `{"iss":"\ud83d\ude00\"\\\/\b\f\n\r\t\u0000","sub":"é"}`, api.Claims{Iss: "\U0001f600\"\\/\b\f\n\r\t\x00", HasIss: true, Sub: "é", HasSub: true})
}

// What is not there is the empty text, no list, Time{}, false; Value is the object in any case.
func TestNothingThere(t *testing.T) {
	t.Parallel()
	for _, payload := range []string{`{}`, `{"a":1}`, `{"aud":[]}`, `{"iss":""}`} {
		c := mustParse(t, api.OK, payload)
		if len(c.Value) == 0 || c.Value[0].Kind != api.Object || len(c.Aud) != 0 {
			t.Fatalf("19.1: Parse(%q) = %s", payload, short(c))
		}
	}
}

// Every name with every value: alone, and behind and ahead of other members.
func TestKinds(t *testing.T) {
	t.Parallel()
	for _, name := range append([]string{"x", "ISS", "Exp", ""}, registered...) {
		for _, value := range valuesOf {
			want := api.OK
			switch name {
			case "iss", "sub", "jti":
				if !value.isText {
					want = api.ErrClaim
				}
			case "aud":
				if !value.aud {
					want = api.ErrClaim
				}
			case "exp", "nbf", "iat":
				if !value.whole {
					want = api.ErrClaim
				}
			}
			member := fmt.Sprintf("%q:%s", name, value.text)
			mustParse(t, want, "{"+member+"}")
			mustParse(t, want, `{"a":[{"exp":null}],`+member+"}")
			mustParse(t, want, "{"+member+`,"z":"z"}`)
		}
	}
}

// Each pair of the registered ones, with each pair of values: one that is wrong spoils the whole.
func TestPairs(t *testing.T) {
	t.Parallel()
	values := []string{`null`, `"a"`, `["a","b"]`, `[]`, `[1]`, `{}`, `7`, `7.0`}
	for _, one := range registered {
		for _, two := range registered {
			for _, a := range values {
				for _, b := range values {
					payload := fmt.Sprintf(`{%q:%s,%q:%s}`, one, a, two, b)
					if one == two {
						mustParse(t, api.ErrTwice, payload)
						continue
					}
					holdParse(t, payload)
				}
			}
		}
	}
}

// Names are the same byte by byte, the escapes read.
func TestNearlyNames(t *testing.T) {
	t.Parallel()
	for _, name := range registered {
		var near []string
		for i := range len(name) {
			near = append(near, name[:i], name[i+1:], name[:i]+strings.ToUpper(name[i:i+1])+name[i+1:], name[:i]+name[i:i+1]+name[i:], name[:i]+`\u0000`+name[i:])
		}
		near = append(near, name+" ", " "+name, name+`\u0000`, name+"é", strings.ToUpper(name))
		for _, other := range near {
			if !slices.Contains(registered, other) {
				mustSay(t, `{"`+other+`":{"a":[1.5]}}`, api.Claims{})
			}
		}
		mustParse(t, api.ErrClaim, fmt.Sprintf(`{"\u%04x%s":{}}`, name[0], name[1:]))
	}
}

// A value that is no object is none, whatever is in it.
func TestNoObject(t *testing.T) {
	t.Parallel()
	for _, payload := range []string{`null`, `false`, `true`, `0`, `12`, `1.5`, `""`, `"exp"`, `"{\"iss\":\"a\"}"`, `[]`, `["iss","a"]`, `[{"iss":"a"}]`, `[{"iss":1}]`, ` [[ ]] `} {
		mustParse(t, api.ErrClaims, payload)
	}
}

// json's codes come first, wherever the fault stands.
func TestJsonFirst(t *testing.T) {
	t.Parallel()
	for code, payloads := range map[api.Errno][]string{
		api.ErrJson:   {"", " ", "{", "}", `{"iss":1`, `{"iss":1}}`, `{"iss":1,}`, `{"exp":01}`, `{"exp":+1}`, `{"exp":1.}`, `{"exp":.5}`, `{iss:"a"}`, `[1`, `[] []`, "\ufeff{}", `{"exp":NaN}`, `{"exp":1}x`, "{\"iss\":\"\n\"}"},
		api.ErrEscape: {`{"iss":1,"sub":"\x"}`, `["\ud800"]`, `{"exp":"\udc00"}`},
		api.ErrUtf8:   {"{\"iss\":1,\"sub\":\"\xff\"}", "[\"\xc0\x80\"]", "{\"aud\":[\"\xed\xa0\x80\"]}"},
		api.ErrTwice:  {`{"iss":1,"iss":1}`, `{"iss":"a","\u0069ss":"a"}`, `[{"a":1,"a":1}]`, `{"x":{"exp":1,"exp":1},"exp":1.0}`, `{"exp":1,"exp":1`},
		api.ErrDeep:   {strings.Repeat("[", 33), `{"iss":1,"x":` + strings.Repeat("[", 32), `{"aud":` + strings.Repeat("[", 32) + strings.Repeat("]", 32) + "}"},
	} {
		for _, payload := range payloads {
			mustParse(t, code, payload)
		}
	}
}

// The limits are json's: MaxDepth open ones and MaxKeys bytes are taken, one more is not.
func TestLimits(t *testing.T) {
	t.Parallel()
	deep := func(n int) string { return strings.Repeat("[", n) + strings.Repeat("]", n) }
	mustParse(t, api.OK, `{"x":`+deep(31)+`}`)
	mustParse(t, api.ErrDeep, `{"x":`+deep(32)+`}`)
	mustParse(t, api.ErrClaim, `{"aud":`+deep(31)+`}`)
	mustParse(t, api.ErrClaims, deep(32))
	for _, shape := range []struct {
		head, tail string
		want       api.Errno
	}{{`{"iss":"`, `"}`, api.OK}, {`{"exp":1,"x":"`, `"}`, api.OK}, {`{"exp":1.0,"x":"`, `"}`, api.ErrClaim}, {`["`, `"]`, api.ErrClaims}, {`{"x":"`, `"`, api.ErrJson}} {
		fill := api.MaxKeys - len(shape.head) - len(shape.tail)
		mustParse(t, shape.want, shape.head+strings.Repeat("a", fill)+shape.tail)
		mustParse(t, api.ErrLarge, shape.head+strings.Repeat("a", fill+1)+shape.tail)
	}
	mustParse(t, api.ErrLarge, strings.Repeat(" ", api.MaxKeys)+"x")
}

// Many members, and an aud of many texts.
func TestMany(t *testing.T) {
	t.Parallel()
	var members, auds []string
	for i := range 15000 {
		members = append(members, fmt.Sprintf(`"n%d":%d`, i, i))
		auds = append(auds, fmt.Sprintf(`"n%d"`, i))
	}
	c := mustParse(t, api.OK, "{"+strings.Join(members, ",")+`,"exp":5}`)
	if c.Exp != at(5) || len(c.Value) != 15002 {
		t.Fatalf("19.1: %d nodes, %v", len(c.Value), c.Exp)
	}
	c, code := claims.Parse(`{"aud":[` + strings.Join(auds, ",") + "]}")
	if code != api.OK || len(c.Aud) != 15000 || c.Aud[14999] != "n14999" || c.Aud[0] != "n0" {
		t.Fatalf("19.1: %d audiences, %d", len(c.Aud), int(code))
	}
	mustParse(t, api.ErrClaim, `{"aud":[`+strings.Join(auds, ",")+",null]}")
}
