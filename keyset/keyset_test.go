package keyset_test

import (
	"fmt"
	"slices"
	"strings"
	"testing"

	"signet/api"
	"signet/json"
	"signet/keyset"
)

func TestNames(t *testing.T) {
	t.Parallel()
	for i, a := range algs {
		want, back := "", api.NoAlg
		if i < len(names) {
			want, back = names[i], a
		}
		if got := keyset.Name(a); got != want {
			t.Errorf("16.1: Name(%d) = %q, want %q", int64(a), got, want)
		}
		if got := keyset.Of(want); got != back {
			t.Errorf("16.1: Of(%q) = %d, want %d", want, int64(got), int64(back))
		}
	}
	for a := api.Alg(-300); a < 1000; a++ {
		if got := keyset.Name(a); (got != "") != (1 <= a && a <= 12) {
			t.Errorf("16.1: Name(%d) = %q", int64(a), got)
		}
	}
}

// near: texts that differ from one in a byte, in case, or by a byte more or less.
func near(s string) []string {
	out := []string{strings.ToLower(s), strings.ToUpper(s), s + s, " " + s, s + " ", s + "\x00", "\x00" + s, s + "\n", `"` + s + `"`}
	for i := range len(s) {
		out = append(out, s[:i], s[i:], s[:i]+s[i+1:], s[:i]+s[i:i+1]+s[i:])
		for c := range 256 {
			out = append(out, s[:i]+string([]byte{byte(c)})+s[i+1:])
		}
	}
	return out
}

// Byte by byte: nothing but the name itself is the name.
func TestNearNames(t *testing.T) {
	t.Parallel()
	others := strings.Fields("none None NONE nOnE ES512 ES256K RS1 HS1 Ed25519 Ed448 EDDSA eddsa oct RSA EC OKP RSA-OAEP dir A128KW 1 12 256 HS256,RS256")
	for mask := range 16 {
		word := []byte("none")
		for i := range word {
			word[i] -= byte(mask>>i&1) * 32
		}
		others = append(others, string(word))
	}
	for _, name := range names {
		others = append(others, near(name)...)
	}
	for _, s := range append(others, "", "ＨＳ256", strings.Repeat("HS256", 1000)) {
		want := api.Alg(slices.Index(names, s) + 1)
		if got := keyset.Of(s); got != want {
			t.Errorf("16.1: Of(%.40q) = %d, want %d", s, int64(got), int64(want))
		}
	}
}

// The rows of the chapter's tables.
func TestExamples(t *testing.T) {
	t.Parallel()
	if l := entries(t, `{"keys":[]}`); len(l) != 0 {
		t.Errorf("16.2: %d entries of none", len(l))
	}
	if l := entries(t, `{"keys":[{"kty":"x"}],"more":1}`); len(l) != 1 || l[0].Kty != api.NoKty {
		t.Errorf("16.2: kty x: %v", l)
	}
	for _, doc := range []string{`[]`, `{}`, `{"keys":{}}`, `{"keys":[1]}`, `{"keys":[{}]}`, `{"keys":[{"kty":"oct","kid":7}]}`, `{"keys":[{"kty":"RSA","key_ops":["verify","verify"]}]}`, `{"keys":[{"kty":"oct","kid":"a"},{"kid":3}]}`} {
		mustParse(t, "an example", api.ErrMember, doc)
	}
	l := entries(t, `{"keys":[{"kty":"oct","kid":"a"},{"kty":"RSA","kid":"\u0061"}]}`)
	if len(l) != 2 {
		t.Fatalf("16.2: %d entries", len(l))
	}
	if _, code := keyset.Find(l, "a"); code != api.ErrKeys {
		t.Errorf("16.3: Find a: %d", int(code))
	}
	if _, code := keyset.Find(l, "b"); code != api.ErrNoKey {
		t.Errorf("16.3: Find b: %d", int(code))
	}
	const object = `"kty":"EC","crv":"P-256","kid":"a","use":"sig"`
	mustBind(t, `{`+object+`}`, "ES256")
	mustBind(t, strings.Replace(`{`+object+`}`, "sig", "enc", 1), "")
	mustBind(t, `{`+object+`,"alg":"ES384"}`, "")
	mustBind(t, `{`+object+`,"key_ops":["sign"]}`, "")
}

// mustBind: to the algorithms of these names, and to nothing else.
func mustBind(t *testing.T, object, good string) {
	t.Helper()
	x := only(t, object)
	for _, a := range algs {
		want := api.ErrBinding
		if 1 <= a && a <= 12 && slices.Contains(strings.Fields(good), names[a-1]) {
			want = api.OK
		}
		if got := keyset.Bind(x, a); got != want {
			t.Errorf("16.4: Bind(%s, %d) = %d, want %d", object, int64(a), int(got), int(want))
		}
	}
}

// What an entry has, field by field.
func TestEntries(t *testing.T) {
	t.Parallel()
	l := entries(t, ` { "a" : { "keys" : 7 } , "\u006beys" : [ {"key_ops":["verify","","\u00e9"],"alg":"","n":-0.5e3,"use":"sig","kid":"\u0061","k\u0074y":"RSA","x":[{"kid":"b"}]},{"kty":"OKP"} ] , "kid" : 1 } `)
	if len(l) != 2 {
		t.Fatalf("16.2: %d entries", len(l))
	}
	value := []api.Node{
		{Kind: api.Object, Kids: 7},
		{Kind: api.List, Key: "key_ops", Kids: 3},
		{Kind: api.String, Text: "verify"},
		{Kind: api.String},
		{Kind: api.String, Text: "é"},
		{Kind: api.String, Key: "alg"},
		{Kind: api.Number, Key: "n", Text: "-0.5e3"},
		{Kind: api.String, Key: "use", Text: "sig"},
		{Kind: api.String, Key: "kid", Text: "a"},
		{Kind: api.String, Key: "kty", Text: "RSA"},
		{Kind: api.List, Key: "x", Kids: 1},
		{Kind: api.Object, Kids: 1},
		{Kind: api.String, Key: "kid", Text: "b"},
	}
	want := api.Entry{Value: value, Kty: api.RSA, Kid: "a", HasKid: true, Use: "sig", HasUse: true, HasAlg: true, Ops: []string{"verify", "", "é"}, HasOps: true}
	if !same(l[0], want) {
		t.Errorf("16.2: %+v, want %+v", l[0], want)
	}
	want = api.Entry{Value: []api.Node{{Kind: api.Object, Kids: 1}, {Kind: api.String, Key: "kty", Text: "OKP"}}, Kty: api.OKP}
	if !same(l[1], want) {
		t.Errorf("16.2: %+v, want %+v", l[1], want)
	}
}

func TestTypes(t *testing.T) {
	t.Parallel()
	known := map[string]api.Kty{"oct": api.Oct, "RSA": api.RSA, "EC": api.EC, "OKP": api.OKP}
	others := strings.Fields("Oct OCT rsa Rsa ec Ec okp octet RSA2 AKP 1 2 none P-256 HS256")
	for name := range known {
		others = append(others, near(name)...)
		others = append(others, name)
	}
	for _, name := range append(others, "") {
		if strings.ContainsAny(name, `"\`) || strings.ToValidUTF8(name, "?") != name || strings.IndexFunc(name, func(r rune) bool { return r < 32 }) >= 0 {
			continue
		}
		if x := only(t, `{"kty":"`+name+`"}`); x.Kty != known[name] {
			t.Errorf("16.2: kty %q: %d", name, int(x.Kty))
		}
	}
}

// Every value of some kind in every member that counts.
func TestKinds(t *testing.T) {
	t.Parallel()
	values := map[string]string{`null`: "", `false`: "", `true`: "", `0`: "", `1.5`: "", `"a"`: "text", `""`: "text", `"\u0061"`: "text", `[]`: "list", `["a"]`: "list", `["a","b",""]`: "list", `["a","\u0061"]`: "", `["a","b","a"]`: "", `["",""]`: "", `["a",1]`: "", `[null]`: "", `[["a"]]`: "", `[{}]`: "", `{}`: "", `{"a":"b"}`: "", `{"0":"verify"}`: ""}
	for says, kind := range values {
		for name, want := range map[string]string{"kty": "text", "kid": "text", "use": "text", "alg": "text", "key_ops": "list"} {
			code := api.ErrMember
			if kind == want {
				code = api.OK
			}
			rest := `"kty":"oct"`
			if name == "kty" {
				rest = `"kid":"oct"`
			}
			for _, object := range []string{`{"` + name + `":` + says + `,` + rest + `}`, `{` + rest + `,"` + name + `":` + says + `}`} {
				mustParse(t, name, code, `{"keys":[`+object+`]}`)
				mustParse(t, name+", the last one", code, `{"keys":[{"kty":"oct"},{"kty":"EC","kid":"a"},`+object+`]}`)
				mustParse(t, name+", the first one", code, `{"keys":[`+object+`,{"kty":"oct"}]}`)
			}
		}
		// A value that is no object is no key; and a member that does not count may be anything.
		code := api.ErrMember
		mustParse(t, "a value of the list", code, `{"keys":[{"kty":"oct"},`+says+`]}`)
		if strings.HasPrefix(says, "[]") {
			code = api.OK
		}
		mustParse(t, "keys", code, `{"keys":`+says+`}`)
		for _, name := range []string{"k", "n", "x", "crv", "d", "KTY", "Kid", "kid ", "", "use_", "key_op", "keys", "x5c"} {
			mustParse(t, name, api.OK, `{"keys":[{"kty":"oct","`+name+`":`+says+`}],"Keys":`+says+`,"kty":`+says+`}`)
		}
	}
}

// What is no set, though a set may stand in it.
func TestNoSets(t *testing.T) {
	t.Parallel()
	for _, doc := range []string{`null`, `true`, `7`, `"keys"`, `""`, `[{"keys":[]}]`, `["keys",[]]`, `{"Keys":[]}`, `{"KEYS":[]}`, `{"keys ":[]}`, `{"key":[]}`, `{"":[]}`, `{"a":{"keys":[]}}`, `{"keys":null}`, `{"keys":"[]"}`, `{"keys":{"kty":"oct"}}`, `{"kty":"oct"}`, `{"keys":[[]]}`, `{"keys":[[{"kty":"oct"}]]}`, `{"keys":[{"a":{"kty":"oct"}}]}`, `{"keys":["kty"]}`, `{"keys":[{"Kty":"oct"}]}`, `{"keys":[{"kty":"oct"},null]}`} {
		mustParse(t, "no set", api.ErrMember, doc)
	}
}

// json's codes come ahead of all that the value says.
func TestJsonFirst(t *testing.T) {
	t.Parallel()
	for doc, code := range map[string]api.Errno{
		``:                           api.ErrJson,
		`{"keys":1`:                  api.ErrJson,
		`{"keys":[1]} x`:             api.ErrJson,
		`[] []`:                      api.ErrJson,
		`{"keys":[],"keys":[]}`:      api.ErrTwice,
		`[{"a":1,"\u0061":2}]`:       api.ErrTwice,
		`{"keys":[1,{"a":1,"a":2}]}`: api.ErrTwice,
		`{"keys":[{"kty":"oct","k\u0074y":"oct"}]}`:   api.ErrTwice,
		`{"keys":[{"kty":7},{"kty":"oct","a":"\x"}]}`: api.ErrEscape,
		`["\ud800"]`:            api.ErrEscape,
		"{\"keys\":[7,\"\xff\"": api.ErrUtf8,
		`{"keys":{"a":` + strings.Repeat("[", 31):                                                api.ErrDeep,
		`{"keys":[{"kty":"oct","a":` + strings.Repeat("[", 30) + strings.Repeat("]", 30) + `}]}`: api.ErrDeep,
	} {
		mustParse(t, "json's", code, doc)
	}
	mustParse(t, "as deep as may be", api.OK, `{"keys":[{"kty":"oct","a":`+strings.Repeat("[", 29)+strings.Repeat("]", 29)+`}]}`)
}

// MaxKeys bytes are taken; of one more nothing is looked at.
func TestLarge(t *testing.T) {
	t.Parallel()
	doc := `{"keys":[{"kty":"oct","kid":"a"}]}`
	pad := strings.Repeat(" ", api.MaxKeys-len(doc))
	long := strings.Replace(doc, `"a"`, `"a`+strings.Repeat("b", len(pad))+`"`, 1)
	for _, full := range []string{doc + pad, pad + doc, long} {
		mustParse(t, "at the limit", api.OK, full)
		mustParse(t, "past it", api.ErrLarge, full+" ")
		mustParse(t, "past it", api.ErrLarge, " "+full)
	}
	mustParse(t, "at the limit, no JSON", api.ErrJson, strings.Repeat("x", api.MaxKeys))
	mustParse(t, "at the limit, no set", api.ErrMember, "7"+strings.Repeat(" ", api.MaxKeys-1))
	for _, b := range []string{"x", " ", "[", "\xff"} {
		mustParse(t, "past the limit, no JSON", api.ErrLarge, strings.Repeat(b, api.MaxKeys+1))
		mustParse(t, "far past the limit", api.ErrLarge, strings.Repeat(b, 4*api.MaxKeys))
	}
}

// As many keys, and as many key_ops, as have room.
func TestMany(t *testing.T) {
	t.Parallel()
	var parts []string
	for i := range 9000 {
		parts = append(parts, fmt.Sprintf(`{"kty":"oct","kid":"%x"}`, i))
	}
	l, code := keyset.Parse(`{"keys":[` + strings.Join(parts, ",") + `]}`)
	if code != api.OK || len(l) != 9000 {
		t.Fatalf("16.2: %d entries, %d", len(l), int(code))
	}
	for i := 0; i < 9000; i += 100 {
		kid := fmt.Sprintf("%x", i)
		if x, code := keyset.Find(l, kid); code != api.OK || x.Kid != kid {
			t.Fatalf("16.3: Find(%s) = %v, %d", kid, x, int(code))
		}
	}
	parts = nil
	for i := range 30000 {
		parts = append(parts, fmt.Sprintf(`"%x"`, i))
	}
	form := func(ops []string) string {
		return `{"keys":[{"key_ops":[` + strings.Join(ops, ",") + `],"kty":"oct"}]}`
	}
	mustParse(t, "many key_ops", api.OK, form(parts))
	for _, pair := range [][2]int{{0, 29999}, {0, 1}, {14000, 15000}, {29998, 29999}} {
		ops := slices.Clone(parts)
		ops[pair[1]] = ops[pair[0]]
		mustParse(t, "many key_ops, one of them twice", api.ErrMember, form(ops))
	}
}

// An entry's Value is what the object by itself is read as.
func TestValueByItself(t *testing.T) {
	t.Parallel()
	objects := []string{`{"kty":"oct"}`, `{"a":[{"kty":"RSA","keys":[[],{}]}],"kty":"EC","":null}`, `{"kty":"","keys":[{"kty":1}]}`, `{"x":{"kty":7,"kid":[]},"kty":"OKP","kid":"\u0000"}`}
	for i, x := range entries(t, `{"a":[{}],"keys":[`+strings.Join(objects, " , ")+`],"b":{}}`) {
		want, _, _ := json.Parse(objects[i])
		if !slices.Equal(x.Value, want) {
			t.Errorf("16.2: the Value of %s is %v", objects[i], x.Value)
		}
	}
}
