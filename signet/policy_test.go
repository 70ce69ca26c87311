package signet_test

import (
	"math/rand"
	"reflect"
	"slices"
	"strings"
	"testing"

	"signet/api"
	"signet/signet"
)

func mustPolicy(t *testing.T, text string, want api.Policy) {
	t.Helper()
	if p, code := holdPolicy(t, text); code != api.OK || !same(p, want) {
		t.Errorf("27.1: Policy(%.900q) = %+v, %d, want %+v", text, p, int(code), want)
	}
}

func mustRefuse(t *testing.T, text string, want api.Errno) {
	t.Helper()
	if _, code := holdPolicy(t, text); code != want {
		t.Errorf("27.1: Policy(%.900q) = %d, want %d", text, int(code), int(want))
	}
}

// What is not there is empty, not wanted, or 0; what is there is as it says, be it empty.
func TestPolicy(t *testing.T) {
	t.Parallel()
	mustPolicy(t, `{}`, api.Policy{})
	mustPolicy(t, " \r\n\t{ } ", api.Policy{})
	mustPolicy(t, `{"algs":[]}`, api.Policy{})
	mustPolicy(t, `{"algs":["HS256","none","HS256",""]}`, api.Policy{Algs: []string{"HS256", "none", "HS256", ""}})
	mustPolicy(t, `{"need":["exp"]}`, api.Policy{Need: []string{"exp"}})
	mustPolicy(t, `{"need":["b","a","b"],"algs":["z"]}`, api.Policy{Need: []string{"b", "a", "b"}, Algs: []string{"z"}})
	mustPolicy(t, `{"iss":""}`, api.Policy{HasIss: true})
	mustPolicy(t, `{"aud":""}`, api.Policy{HasAud: true})
	mustPolicy(t, `{"typ":""}`, api.Policy{HasTyp: true})
	mustPolicy(t, `{"iss":"i"}`, api.Policy{HasIss: true, Iss: "i"})
	mustPolicy(t, `{"aud":"a"}`, api.Policy{HasAud: true, Aud: "a"})
	mustPolicy(t, `{"typ":"t"}`, api.Policy{HasTyp: true, Typ: "t"})
	mustPolicy(t, `{"leeway":7}`, api.Policy{Leeway: 7})
	mustPolicy(t, `{"typ":"t","leeway":600,"need":["n"],"iss":"\u0069\n","aud":"é","algs":["A","B"]}`, api.Policy{Algs: []string{"A", "B"}, Need: []string{"n"}, Iss: "i\n", HasIss: true, Aud: "é", HasAud: true, Typ: "t", HasTyp: true, Leeway: 600})
	mustPolicy(t, `{"\u0061lgs":["\ud83d\ude00"],"l\u0065ewa\u0079":1}`, api.Policy{Algs: []string{"\U0001f600"}, Leeway: 1})
}

// Each member with values of every kind.
func TestKinds(t *testing.T) {
	t.Parallel()
	values := map[string]string{ // and what is of their kind: S a string, L a list of strings, N a leeway
		`""`: "S", `"a"`: "S", `"600"`: "S", `[]`: "L", `["a"]`: "L", `["",""]`: "L", `0`: "N", `-0`: "N", `1`: "N", `600`: "N",
		`null`: "", `true`: "", `false`: "", `{}`: "", `{"a":"b"}`: "", `[1]`: "", `["a",null]`: "", `["a",["b"]]`: "", `[[]]`: "", `[{}]`: "", `["a",true]`: "",
		`-1`: "", `601`: "", `1.0`: "", `0.0`: "", `1e2`: "", `6e2`: "", `0e0`: "", `-0.0`: "", `9223372036854775807`: "", `9223372036854775808`: "", `-9223372036854775808`: "", `18446744073709551616`: "", `4294967296`: "",
	}
	for name, kind := range map[string]string{"algs": "L", "need": "L", "iss": "S", "aud": "S", "typ": "S", "leeway": "N", "x": "none", "": "none"} {
		for value, of := range values {
			for _, other := range []string{"", `"algs":["HS256"]`, `"typ":"t"`, `"need":[]`, `"leeway":5`} {
				if strings.HasPrefix(other, quoted(name)) {
					continue
				}
				want := api.ErrPolicy
				if of == kind {
					want = api.OK
				}
				for _, text := range []string{quoted(name) + ":" + value + "," + other, other + "," + quoted(name) + ":" + value} {
					mustRefuse(t, "{"+strings.Trim(text, ",")+"}", want)
				}
			}
		}
	}
}

// A name counts byte by byte; no other member is let in.
func TestOtherMembers(t *testing.T) {
	t.Parallel()
	for _, name := range []string{"", "x", "Algs", "ALGS", "alg", "algs ", " algs", "algs\x00", "needs", "Need", "issuer", "Iss", "audience", "type", "Leeway", "leewa", "leeway_", "hasIss", "HasIss", "é", "kid", "policy"} {
		for _, value := range []string{`""`, `[]`, `0`, `null`} {
			mustRefuse(t, "{"+quoted(name)+":"+value+"}", api.ErrPolicy)
			mustRefuse(t, `{"algs":["HS256"],"iss":"a",`+quoted(name)+":"+value+`,"leeway":4}`, api.ErrPolicy)
		}
	}
	for _, text := range []string{`null`, `true`, `false`, `1`, `""`, `"{}"`, `[]`, `[{}]`, `[["algs"]]`, `["algs",["HS256"]]`} {
		mustRefuse(t, text, api.ErrPolicy)
	}
}

// json's codes stand ahead of all that a policy wants.
func TestPolicyJson(t *testing.T) {
	t.Parallel()
	pad := func(n int) string { return `{"iss":"` + strings.Repeat("a", n-len(`{"iss":""}`)) + `"}` }
	for _, c := range []struct {
		text string
		want api.Errno
	}{
		{"", api.ErrJson}, {" ", api.ErrJson}, {"{", api.ErrJson}, {"{}{}", api.ErrJson}, {`{"x":1`, api.ErrJson}, {`{"leeway":601,}`, api.ErrJson}, {`{"leeway":01}`, api.ErrJson}, {"\xef\xbb\xbf{}", api.ErrJson},
		{`{"x":1,"x":1}`, api.ErrTwice}, {`{"iss":"","iss":""}`, api.ErrTwice}, {`{"iss":1,"\u0069ss":""}`, api.ErrTwice}, {`{"x":{"a":1,"a":1}}`, api.ErrTwice},
		{`{"x":"\x"}`, api.ErrEscape}, {`{"iss":"\ud800"}`, api.ErrEscape}, {"{\"iss\":\"\xff\"}", api.ErrUtf8}, {"{\"iss\":\"\n\"}", api.ErrJson},
		{strings.Repeat("[", 33), api.ErrDeep}, {`{"x":` + strings.Repeat("[", 32), api.ErrDeep}, {`{"x":` + strings.Repeat("[", 31) + strings.Repeat("]", 31) + "}", api.ErrPolicy},
		{pad(1 << 18), api.OK}, {pad(1<<18 + 1), api.ErrLarge}, {strings.Repeat("x", 1<<18+1), api.ErrLarge},
	} {
		mustRefuse(t, c.text, c.want)
	}
}

// drawnMember: a member of a policy, mostly of its kind.
func drawnMember(r *rand.Rand) string {
	name := pick(r, []string{"algs", "need", "iss", "aud", "typ", "leeway", "x"})
	texts := []string{`""`, `"HS256"`, `"a"`, `"exp"`, `"\u0061\n"`}
	value := pick(r, texts)
	switch {
	case r.Intn(20) == 0:
		value = pick(r, []string{"null", "1", `"a"`, "[]", "{}", "[1]", "-1", "601", "1.0"})
	case name == "algs", name == "need":
		var l []string
		for range r.Intn(4) {
			l = append(l, pick(r, texts))
		}
		value = "[" + strings.Join(l, pick(r, []string{",", ", "})) + "]"
	case name == "leeway":
		value = pick(r, []string{"0", "-0", "1", "10", "599", "600"})
	}
	return quoted(name) + pick(r, []string{":", " : "}) + value
}

// drawnPolicy: the text of one, or nearly.
func drawnPolicy(r *rand.Rand) string {
	var l []string
	for range r.Intn(5) {
		l = append(l, drawnMember(r))
	}
	return "{" + strings.Join(l, ",") + "}"
}

func TestDrawnPolicies(t *testing.T) {
	t.Parallel()
	r := rand.New(rand.NewSource(1))
	met := map[api.Errno]int{}
	for range 20000 {
		text := drawnPolicy(r)
		if r.Intn(5) == 0 {
			text = wildly(r, text, jsonBytes)
		}
		_, code := holdPolicy(t, text)
		met[code]++
	}
	for _, code := range []api.Errno{api.OK, api.ErrPolicy, api.ErrTwice, api.ErrJson} {
		if met[code] < 500 {
			t.Errorf("%d is met %d times only", int(code), met[code])
		}
	}
}

// What a policy's text says decides what its verifier wants: the policy of a script is Policy's.
func TestPolicyDecides(t *testing.T) {
	t.Parallel()
	pay := `{"iss":"i","aud":"a","exp":1000,"sub":"s"}`
	text := signs(`{"alg":"HS256","kid":"k","typ":"t"}`) + "." + signs(pay)
	token := text + "." + signs(usual.sign("HS256", text))
	for _, c := range []struct {
		policy string
		want   api.Errno
	}{
		{`{"algs":["HS256"],"aud":"a"}`, api.OK}, {`{"aud":"a"}`, api.ErrBarred}, {`{"algs":["HS384","ES256"],"aud":"a"}`, api.ErrBarred}, {`{"algs":["HS384","HS256"],"aud":"a"}`, api.OK},
		{`{"algs":["HS256"]}`, api.ErrAud}, {`{"algs":["HS256"],"aud":"b"}`, api.ErrAud}, {`{"algs":["HS256"],"aud":""}`, api.ErrAud},
		{`{"algs":["HS256"],"aud":"a","iss":"i"}`, api.OK}, {`{"algs":["HS256"],"aud":"a","iss":"j"}`, api.ErrIss}, {`{"algs":["HS256"],"aud":"a","iss":""}`, api.ErrIss},
		{`{"algs":["HS256"],"aud":"a","typ":"t"}`, api.OK}, {`{"algs":["HS256"],"aud":"a","typ":"T"}`, api.ErrTyp}, {`{"algs":["HS256"],"aud":"a","typ":""}`, api.ErrTyp},
		{`{"algs":["HS256"],"aud":"a","need":["sub","exp"]}`, api.OK}, {`{"algs":["HS256"],"aud":"a","need":["sub","nbf"]}`, api.ErrMissing},
		{`{"algs":["HS256"],"aud":"a","leeway":500}`, api.OK},
	} {
		mustRun(t, []string{line("policy", c.policy), line("verify", token, usualSet, 999)}, "ok", tell(c.want, "ok "+pay))
		late := c.want
		if late == api.OK && !strings.Contains(c.policy, "leeway") {
			late = api.ErrExpired
		}
		mustRun(t, []string{line("policy", c.policy), line("verify", token, usualSet, 1499)}, "ok", tell(late, "ok "+pay))
	}
}

// tell: a refusal, or what else is answered.
func tell(code api.Errno, otherwise string) string {
	if code == api.OK {
		return otherwise
	}
	return coded(code)
}

// P2: two policies share nothing, and the lists of one share nothing, to the end of their room.
func TestPolicyMemory(t *testing.T) {
	t.Parallel()
	for n := range 12 {
		list := "[" + strings.TrimPrefix(strings.Repeat(`,"ab"`, n), ",") + "]"
		text := `{"algs":` + list + `,"iss":"joe","need":` + list + `,"aud":"me","typ":"jwt","leeway":3}`
		laid := lay(text)
		first, code := signet.Policy(laid.text)
		second, _ := signet.Policy(laid.text)
		signet.Policy(laid.text[1:])
		laid.hold(t)
		laid.spoil()
		want, _ := wantPolicy(text)
		if code != api.OK || !same(first, want) || !same(second, want) {
			t.Fatalf("P2: a policy goes with what was handed in: %+v, %+v", first, second)
		}
		spoilTexts(first.Algs[len(first.Algs):])
		if !same(first, want) {
			t.Fatalf("P2: what is laid behind one list shows in another: %+v", first)
		}
		spoilTexts(first.Algs)
		if !slices.Equal(first.Need, want.Need) {
			t.Fatalf("P2: the lists share memory: %q", first.Need)
		}
		spoilTexts(first.Need)
		if !same(second, want) {
			t.Fatalf("P2: two answers share memory: %+v", second)
		}
	}
}

func spoilTexts(l []string) {
	for i := range l[:cap(l)] {
		l[:cap(l)][i] = "spoilt"
	}
}

// P3: the same text is answered the same, whatever is asked between.
func TestPolicyAgain(t *testing.T) {
	t.Parallel()
	r := rand.New(rand.NewSource(2))
	for range 2000 {
		text := drawnPolicy(r)
		first, code := signet.Policy(text)
		signet.Policy(drawnPolicy(r))
		signet.Run(line("policy", drawnPolicy(r)))
		second, again := signet.Policy(text)
		if code != again || !reflect.DeepEqual(first, second) {
			t.Fatalf("P3: Policy(%q) = %+v, %d, and then %+v, %d", text, first, int(code), second, int(again))
		}
	}
}
