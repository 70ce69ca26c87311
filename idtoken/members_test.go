package idtoken_test

import (
	"encoding/base64"
	"fmt"
	"slices"
	"strings"
	"testing"
	"unicode/utf8"

	"signet/api"
)

// otherKinds: values that are no string, some of which have a text or a string in them.
var otherKinds = []string{`null`, `true`, `false`, `0`, `1`, `-0`, `1.5`, `[]`, `["c"]`, `["n"]`, `[["c"]]`, `{}`, `{"azp":"c"}`, `{"nonce":"n"}`, `{"c":"c"}`, `["77QmUPtjPfzWtF2AnpK9RQ"]`}

// near: texts, well formed ones, that are nearly another one.
func near(s string) []string {
	out := []string{s + " ", " " + s, s + "\x00", s + s + "x", strings.ToUpper(s) + "X", "é" + s}
	for i := range len(s) {
		out = append(out, s[:i], s[:i]+s[i+1:]+"?", s[:i]+"*"+s[i+1:])
	}
	return slices.DeleteFunc(out, func(s string) bool { return !utf8.ValidString(s) })
}

func quoted(s string) string {
	return `"` + strings.NewReplacer(`\`, `\\`, `"`, `\"`, "\x00", `\u0000`).Replace(s) + `"`
}

// Step 5: azp is looked at in any case; it must be the string, of whatever audiences.
func TestParty(t *testing.T) {
	t.Parallel()
	w := api.Want{Client: "c"}
	for _, aud := range []string{`"c"`, `["c"]`, `["c","c"]`, `["c","d"]`, `["d","c"]`, `["d","c","e","c"]`} {
		mustCheck(t, api.OK, fullFor(t, aud, `"azp":"c"`), api.ES384, w, 0)
		mustCheck(t, api.OK, fullFor(t, aud, `"x":1`, `"\u0061z\u0070":"\u0063"`, `"y":2`), api.ES384, w, 0)
		for _, kind := range otherKinds {
			mustCheck(t, api.ErrAzp, fullFor(t, aud, `"azp":`+kind), api.ES384, w, 0)
		}
		for _, s := range append(near("c"), "d", "") {
			mustCheck(t, api.ErrAzp, fullFor(t, aud, `"azp":`+quoted(s)), api.ES384, w, 0)
		}
	}
	mustCheck(t, api.OK, fullFor(t, `["","d"]`, `"azp":""`), api.ES384, api.Want{}, 0)
	mustCheck(t, api.ErrAzp, fullFor(t, `["","d"]`), api.ES384, api.Want{}, 0)
	for _, kind := range otherKinds {
		mustCheck(t, api.ErrAzp, fullFor(t, `""`, `"azp":`+kind), api.ES384, api.Want{}, 0)
	}
	// A string of JSON cannot be what is no UTF-8, though an audience that is made by hand can.
	mustCheck(t, api.OK, of(value(t, `{}`), "\xff"), api.ES384, api.Want{Client: "\xff"}, 0)
	mustCheck(t, api.ErrAzp, of(value(t, `{"azp":"\ufffd"}`), "\xff"), api.ES384, api.Want{Client: "\xff"}, 0)
}

// Without an azp only the client may be in the list; other members' names are none.
func TestNoParty(t *testing.T) {
	t.Parallel()
	w := api.Want{Client: "c"}
	for _, more := range []string{`"AZP":"c"`, `"azp ":"c"`, `"az":"c"`, `"azpp":"c"`, `"":"c"`, `"x":{"azp":"c"}`, `"x":[{"azp":"c"}]`, `"client":"c"`} {
		mustCheck(t, api.ErrAzp, fullFor(t, `["c","d"]`, more), api.HS512, w, 0)
		mustCheck(t, api.OK, fullFor(t, `["c"]`, strings.Replace(more, `:"c"`, `:"d"`, 1)), api.HS512, w, 0)
	}
}

// wanted: a want of one text, by the step that asks for it; and the code of that step.
type wanted struct {
	name string
	code api.Errno
	want func(text string) api.Want
	says func(text string) string
}

// wantedTexts: the three members that are held against a text.
func wantedTexts(t *testing.T, a api.Alg) []wanted {
	return []wanted{
		{"nonce", api.ErrNonce, func(s string) api.Want { return api.Want{Client: "c", HasNonce: true, Nonce: s} }, func(s string) string { return s }},
		{"at_hash", api.ErrHash, func(s string) api.Want { return api.Want{Client: "c", HasAccess: true, Access: s} }, func(s string) string { return half(t, a, s) }},
		{"c_hash", api.ErrHash, func(s string) api.Want { return api.Want{Client: "c", HasCode: true, Code: s} }, func(s string) string { return half(t, a, s) }},
	}
}

// Steps 6 and 7: there, a string, and just that text; wherever it stands in the payload, and however it is spelled.
func TestTexts(t *testing.T) {
	t.Parallel()
	for _, x := range algs {
		for _, k := range wantedTexts(t, x.alg) {
			for _, text := range []string{"", "n", "c", access, exchange, `a"\b`, "é\x00"} {
				w, right := k.want(text), k.says(text)
				member := quoted(k.name) + ":" + quoted(right)
				mustCheck(t, api.OK, full(t, member), x.alg, w, 0)
				mustCheck(t, api.OK, full(t, `"x":[{"`+k.name+`":7}]`, member, `"y":null`), x.alg, w, 0)
				mustCheck(t, api.OK, full(t, fmt.Sprintf(`"\u%04x%s":%s`, k.name[0], k.name[1:], quoted(right))), x.alg, w, 0)
				mustCheck(t, k.code, full(t), x.alg, w, 0)
				for _, s := range near(right) {
					mustCheck(t, k.code, full(t, quoted(k.name)+":"+quoted(s)), x.alg, w, 0)
				}
				for _, other := range []string{`"x":{` + member + `}`, `"x":[{` + member + `}]`, `"` + strings.ToUpper(k.name) + `":` + quoted(right), `"` + k.name + ` ":` + quoted(right), `"` + k.name[1:] + `":` + quoted(right), `"":` + quoted(right)} {
					mustCheck(t, k.code, full(t, other), x.alg, w, 0)
				}
				for _, kind := range otherKinds {
					mustCheck(t, k.code, full(t, `"`+k.name+`":`+kind), x.alg, w, 0)
				}
			}
		}
	}
}

// What is not wanted is not looked at, whatever stands there, and whatever the want says.
func TestNotWanted(t *testing.T) {
	t.Parallel()
	unwanted := api.Want{Client: "c", Nonce: "m", Access: "m", Code: "m", MaxAge: low, Leeway: 600}
	for _, kind := range append([]string{`"x"`, `""`, `"m"`, `1e3`, `9223372036854775808`}, otherKinds...) {
		more := []string{`"nonce":` + kind, `"at_hash":` + kind, `"c_hash":` + kind, `"auth_time":` + kind, `"acr":` + kind, `"amr":` + kind, `"s_hash":` + kind}
		for _, now := range []int64{low, 0, high} {
			mustCheck(t, api.OK, full(t, more...), api.PS256, api.Want{Client: "c"}, now)
			mustCheck(t, api.OK, full(t, more...), api.PS256, unwanted, now)
		}
	}
}

// The two sums do not stand for each other, and both are asked.
func TestTwoHashes(t *testing.T) {
	t.Parallel()
	for _, x := range algs {
		one, two := quoted(half(t, x.alg, access)), quoted(half(t, x.alg, exchange))
		w := api.Want{Client: "c", HasAccess: true, Access: access, HasCode: true, Code: exchange}
		mustCheck(t, api.OK, full(t, `"at_hash":`+one, `"c_hash":`+two), x.alg, w, 0)
		mustCheck(t, api.ErrHash, full(t, `"at_hash":`+two, `"c_hash":`+one), x.alg, w, 0)
		mustCheck(t, api.ErrHash, full(t, `"at_hash":`+one), x.alg, w, 0)
		mustCheck(t, api.ErrHash, full(t, `"c_hash":`+two), x.alg, w, 0)
		mustCheck(t, api.ErrHash, full(t, `"at_hash":`+one, `"c_hash":`+one), x.alg, w, 0)
		mustCheck(t, api.ErrHash, full(t, `"at_hash":`+two, `"c_hash":`+two), x.alg, w, 0)
		mustCheck(t, api.OK, full(t, `"at_hash":`+one, `"c_hash":1`), x.alg, api.Want{Client: "c", HasAccess: true, Access: access, Code: exchange}, 0)
		mustCheck(t, api.OK, full(t, `"at_hash":1`, `"c_hash":`+two), x.alg, api.Want{Client: "c", HasCode: true, Access: access, Code: exchange}, 0)
	}
}

// A sum made by another algorithm is taken just if its hash is the same one.
func TestOtherAlgs(t *testing.T) {
	t.Parallel()
	for _, made := range algs {
		c := full(t, `"at_hash":`+quoted(half(t, made.alg, access)), `"c_hash":`+quoted(half(t, made.alg, access)))
		for _, asked := range algs {
			want := api.ErrHash
			if string(sumOf(made.name, "")) == string(sumOf(asked.name, "")) {
				want = api.OK
			}
			mustCheck(t, want, c, asked.alg, api.Want{Client: "c", HasAccess: true, Access: access}, 0)
			mustCheck(t, want, c, asked.alg, api.Want{Client: "c", HasCode: true, Code: access}, 0)
		}
	}
	// The whole sum, its right half, hexadecimal digits, other spellings of base64, and nothing, are none.
	sum, right := sumOf("RS256", access), half(t, api.RS256, access)
	b64 := base64.RawURLEncoding.EncodeToString
	for _, s := range []string{b64(sum), b64(sum[16:]), fmt.Sprintf("%x", sum), fmt.Sprintf("%x", sum[:16]), right + "==", right[:21] + "R", strings.ToLower(right), ""} {
		mustCheck(t, api.ErrHash, full(t, `"at_hash":`+quoted(s)), api.RS256, api.Want{Client: "c", HasAccess: true, Access: access}, 0)
	}
}

// A value that is no object has no member: no azp, and nothing that is wanted.
func TestNoObject(t *testing.T) {
	t.Parallel()
	for _, text := range []string{`null`, `true`, `false`, `7`, `"azp"`, `"nonce"`, `[]`, `["nonce","n"]`, `[{"azp":"d","nonce":"n","auth_time":0}]`, `{}`} {
		v := value(t, text)
		mustCheck(t, api.OK, of(v, "c"), api.RS384, api.Want{Client: "c"}, 0)
		mustCheck(t, api.OK, of(v, "c", "c"), api.RS384, api.Want{Client: "c"}, 0)
		mustCheck(t, api.ErrAzp, of(v, "c", "d"), api.RS384, api.Want{Client: "c"}, 0)
		mustCheck(t, api.ErrNonce, of(v, "c"), api.RS384, api.Want{Client: "c", HasNonce: true}, 0)
		mustCheck(t, api.ErrNonce, of(v, "c"), api.RS384, api.Want{Client: "c", HasNonce: true, Nonce: "n"}, 0)
		mustCheck(t, api.ErrHash, of(v, "c"), api.RS384, api.Want{Client: "c", HasAccess: true}, 0)
		mustCheck(t, api.ErrHash, of(v, "c"), api.RS384, api.Want{Client: "c", HasCode: true}, 0)
		mustCheck(t, api.ErrAge, of(v, "c"), api.RS384, api.Want{Client: "c", HasAge: true, MaxAge: 1 << 31}, 0)
	}
}
