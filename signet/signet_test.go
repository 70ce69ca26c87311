package signet_test

import (
	"math"
	"slices"
	"strings"
	"testing"

	"signet/api"
	"signet/signet"
)

const low, high = math.MinInt64, math.MaxInt64

// The policy that most scripts here set, the text of a payload that it lets by, and what a script has ahead of a gate's words.
const (
	asked = `{"algs":["HS256"]}`
	body  = `{"jti":"a","exp":2000}`
)

var opened = []string{line("policy", asked), line("open", ""), line("rotate", usualSet, 100, 0)}

// behind: a script that goes on behind these lines.
func behind(ahead []string, more ...string) []string { return slices.Concat(ahead, more) }

// The chapter's examples.
func TestExamples(t *testing.T) {
	t.Parallel()
	mustRun(t, []string{`["sum", 256, ""]`}, "sum 47DEQpj8HBSa-_TImW-5JCeuQeRkm5NMpJWZG3hSuFU")
	mustRun(t, []string{`["policy", "{\"algs\":[\"HS256\"],\"leeway\":601}"]`}, "refused 12")
	mustRun(t, []string{`["take", "a.b.c", 5]`}, "refused 190")
	mustRun(t, []string{`{}`, `["Sum", 256, ""]`, `["sum", 1, ""]`}, "refused 190", "refused 190", "refused 190")
}

// A script is cut at its line ends; empty lines and remarks are passed over, and told nothing.
func TestCutting(t *testing.T) {
	t.Parallel()
	const sum, told = `["sum",256,""]`, "sum 47DEQpj8HBSa-_TImW-5JCeuQeRkm5NMpJWZG3hSuFU\n"
	for script, want := range map[string]string{
		"": "", "\n": "", "\n\n\n": "", "#": "", "#\n": "", "\n#": "", "# a\n#[\n##\n#\xff": "", "#" + sum: "",
		sum: told, sum + "\n": told, "\n" + sum: told, "\n\n" + sum + "\n\n": told, "#\n" + sum + "\n#": told, "# one\n" + sum: told,
		sum + "\n" + sum: told + told, sum + "\n\n#\n\n" + sum + "\n": told + told,
		"  " + sum + "\t \r": told, "\r" + sum: told, " [ \"sum\"\t,\r256 , \"\" ] ": told,
		" ": none + "\n", "\r": none + "\n", "\t\n\r\n": none + "\n" + none + "\n", " #": none + "\n", "\r#": none + "\n", "[]#": none + "\n",
		sum + sum: none + "\n", sum + ",": none + "\n", sum + "#": none + "\n", sum + "\x00": none + "\n", sum + "\r" + sum: none + "\n", sum + "\v" + sum: none + "\n", sum + "\u2028": none + "\n", "\xef\xbb\xbf" + sum: none + "\n",
		"[\"sum\",\n256,\"\"]": none + "\n" + none + "\n", "[\"sum\",256,\"\n\"]": none + "\n" + none + "\n",
		sum + "\nx\n" + sum: told + none + "\n" + told, "x\n\n" + sum + "\n#\ny": none + "\n" + told + none + "\n",
		"[\"sum\",256,\"\\n\"]": "sum AbpHGcgLb-kRsJGnwFEktk7uzpZOCcBY74-YBdrKVGs\n",
	} {
		holdRun(t, script)
		if got := signet.Run(script); got != want {
			t.Errorf("27.2: Run(%q) = %q, want %q", script, got, want)
		}
	}
}

// Lines that are no list of a word and its values.
func TestNoLines(t *testing.T) {
	t.Parallel()
	for _, text := range []string{
		"x", "len", `"len"`, "1", "null", "true", "{}", `{"len":[]}`, `{"len":1}`, "[]", "[1]", "[null]", "[true]", "[[]]", `[["len"]]`, `[["len"],[]]`, `[{}]`, `[{"len":"len"}]`, `{"len":"len"}`, `{"":"len"}`, `{"word":"sum","n":256,"text":""}`, `{"word":"policy","text":"{}"}`, `[["len"],"len"]`, `[["sum",256,""]]`, `[["sum"],256,""]`, `["sum",[256,""]]`, `["sum",[256],""]`, `["sum",256,[""]]`, `["sum",{"n":256},""]`, `["policy",{"a":"{}"}]`, `[1,"len"]`, `[[],"len"]`, `[null,"len"]`,
		`[""]`, `["",""]`, `["x"]`, `["Len"]`, `["LEN"]`, `["len "]`, `[" len"]`, `["le"]`, `["lenn"]`, `["len\u0000"]`, `["policies","{}"]`, `["polic","{}"]`, `["Verify","","",1]`, `["run",""]`, `["setPolicy","{}"]`,
		`["len"`, `"len"]`, `["len"]]`, `["len",]`, `["len"] ["len"]`, `['len']`, `["len]`, "[\"len\xff\"]", `["\x6cen"]`, `["len"]//`, `["l\ud800en"]`,
		`["len",` + strings.Repeat("[", 33), `["len",` + strings.Repeat("[", 31) + strings.Repeat("]", 31) + "]", `["len",{"a":1,"a":1}]`, `["len",""]`, `["len",0]`, `["len",null]`, `["len",[]]`, `["len",{}]`,
	} {
		mustRun(t, behind(opened, text, line("len")), "ok", "ok", "ok", none, "len 0")
		mustRun(t, []string{text}, none)
	}
	mustRun(t, behind(opened, `["\u006c\u0065n"]`, ` [ "len" ] `), "ok", "ok", "ok", "len 0", "len 0")
}

// wants: what each word of the table wants behind it, a sign each.
var wants = map[string]string{"policy": "S", "verify": "SSN", "judge": "SS", "thumb": "S", "pem": "SS", "key": "S", "sum": "NS", "rule": "SS", "serial": "SSNN", "open": "S", "rotate": "SNN", "take": "SN", "len": ""}

// Each word, with each row of up to four values of each kind, and some of five: it is a line just if the row is the table's.
func TestForms(t *testing.T) {
	t.Parallel()
	kinds := []string{`""S`, `"{}"S`, `256N`, `-0N`, `1.0.`, `3e2.`, `9223372036854775808.`, `null.`, `[].`, `["a"].`, `{}.`}
	rows := [][2]string{{"", ""}} // values with a comma ahead of each, and their signs
	from := 0
	for range 4 {
		to := len(rows)
		for _, row := range rows[from:to] {
			for _, k := range kinds {
				rows = append(rows, [2]string{row[0] + "," + k[:len(k)-1], row[1] + k[len(k)-1:]})
			}
		}
		from = to
	}
	for _, row := range rows[:600] {
		rows = append(rows, [2]string{row[0] + `,"","",1,1`, row[1] + "SSNN"}, [2]string{`,"","",1,1` + row[0], "SSNN" + row[1]})
	}
	for word, form := range wants {
		for _, row := range rows {
			text := "[" + quoted(word) + row[0] + "]"
			script := text
			if form == row[1] || len(row[1]) < 3 {
				script = strings.Join(behind(opened, text), "\n")
			}
			got := lines(t, signet.Run(script))
			isLine := row[1] == form && (word != "sum" || strings.HasPrefix(row[0], ",256"))
			if (got[len(got)-1] != none) != isLine {
				t.Fatalf("27.2: %s is answered %.900q", text, got[len(got)-1])
			}
		}
	}
}

// A number is a whole one as it is spelled, of the whole width.
func TestNumbers(t *testing.T) {
	t.Parallel()
	for text, isOne := range map[string]bool{
		"0": true, "-0": true, "1": true, "-1": true, "9223372036854775807": true, "-9223372036854775808": true,
		"9223372036854775808": false, "-9223372036854775809": false, "18446744073709551617": false, "1.0": false, "0.0": false, "1e0": false, "1E2": false, "10e-1": false, "01": false, "+1": false, "0x1": false, "1_0": false, `"1"`: false, "true": false, "null": false, "": false, "--1": false, "[1]": false,
	} {
		for _, form := range []string{`["verify","","",*]`, `["serial","","",*,1]`, `["serial","","",1,*]`, `["rotate","",*,0]`, `["rotate","",0,*]`, `["take","",*]`} {
			got := holdRun(t, strings.Join(behind(opened[:2], strings.Replace(form, "*", text, 1)), "\n"))
			if (got[2] != none) != isOne {
				t.Errorf("27.2: %s with %s is answered %q", form, text, got[2])
			}
		}
	}
	mustRun(t, behind(opened, line("take", "", low), line("take", pays(body), 1999)), "ok", "ok", "ok", "refused 162", "ok "+body)
	mustRun(t, behind(opened[:2], line("rotate", usualSet, low, 0), line("take", pays(`{"jti":"a","exp":-9223372036854775807}`), low), line("len")), "ok", "ok", "ok", `ok {"jti":"a","exp":-9223372036854775807}`, "len 1")
	mustRun(t, behind(opened[:2], line("rotate", usualSet, high, 0), line("take", pays(body), high), line("take", pays(body), high-1)), "ok", "ok", "ok", "refused 134", "refused 162")
}

// sum: of the text's bytes, by three hashes.
func TestSum(t *testing.T) {
	t.Parallel()
	for _, text := range []string{"", "abc", "\x00", "é", "\u2028", "a\nb", `"\`, strings.Repeat("a", 1000)} {
		for bits, alg := range map[int]string{256: "HS256", 384: "HS384", 512: "HS512"} {
			mustRun(t, []string{line("sum", bits, text)}, "sum "+signs(sumOf(alg, text)))
		}
	}
	mustRun(t, []string{`["sum",256,"\u0061\u0062\u0063"]`}, "sum ungWv48Bz-pBQUDeXa4iI7ADYaOWF3qctBD_YfIAFa0")
	for _, n := range []any{0, 1, -256, 255, 257, 383, 385, 511, 513, 224, 128, 768, 1024, 32, 48, 64, 4294967552, low, high, "256"} {
		mustRun(t, []string{line("sum", n, "")}, none)
	}
}

// rule: json's code of the payload, then the rule's.
func TestRule(t *testing.T) {
	t.Parallel()
	for _, c := range []struct {
		rule, pay string
		want      api.Errno
	}{
		{"has a", `{"a":1}`, api.OK}, {"not has a", `{"a":1}`, api.ErrDenied}, {"a = 1", ` { "a" : 1.0 } `, api.OK}, {`a.1 = "\u0062"`, `{"a":[0,"b"]}`, api.OK}, {`a contains "c"`, `{"a":["b"]}`, api.ErrDenied},
		{"", `{}`, api.ErrRule}, {" ", `{}`, api.ErrRule}, {"has", `{}`, api.ErrRule}, {"(", `{}`, api.ErrRule}, {strings.Repeat("(", 33), `{}`, api.ErrDeep}, {strings.Repeat("a", 1025), `{}`, api.ErrLarge},
		{"has a", `[]`, api.ErrClaims}, {"has a", `1`, api.ErrClaims}, {"has a", `"a"`, api.ErrClaims}, {"(", `[]`, api.ErrRule},
		{"has a", ``, api.ErrJson}, {"(", `{`, api.ErrJson}, {"", `{"a":1,"a":1}`, api.ErrTwice}, {strings.Repeat("a", 1025), `"\x"`, api.ErrEscape}, {"has a", strings.Repeat("[", 33), api.ErrDeep},
	} {
		mustRun(t, []string{line("rule", c.rule, c.pay)}, coded(c.want))
		mustRun(t, []string{line("policy", `{"iss":"i","need":["x"]}`), line("rule", c.rule, c.pay)}, "ok", coded(c.want))
	}
}

// verify and judge: by the policy of the line, which a refused one leaves as it was.
func TestVerifyAndJudge(t *testing.T) {
	t.Parallel()
	token := pays(body)
	mustRun(t, []string{line("verify", token, usualSet, 5), line("judge", token, usualSet)}, "refused 112", "refused 112")
	mustRun(t, []string{line("policy", asked), line("verify", token, usualSet, 1999), line("verify", token, usualSet, 2000), line("judge", token, usualSet)}, "ok", "ok "+body, "refused 134", "window -9223372036854775808 1999")
	mustRun(t, []string{line("policy", asked), line("policy", `{"algs":[],"leeway":601}`), line("policy", "{"), line("verify", token, usualSet, 1999), line("policy", `{}`), line("verify", token, usualSet, 1999), line("policy", asked), line("verify", token, usualSet, 1999)},
		"ok", "refused 12", "refused 31", "ok "+body, "ok", "refused 112", "ok", "ok "+body)
	mustRun(t, []string{line("policy", `{"algs":["HS256"],"leeway":9}`), line("verify", token, usualSet, 2008), line("judge", token, usualSet), line("policy", asked), line("judge", token, usualSet)}, "ok", "ok "+body, "window -9223372036854775808 2008", "ok", "window -9223372036854775808 1999")
	for pay, want := range map[string]string{
		`{}`: "window -9223372036854775808 9223372036854775807", `{"nbf":5}`: "window 5 9223372036854775807", `{"exp":5,"nbf":5}`: "never", `{"exp":5,"nbf":4}`: "window 4 4", `{"exp":-5,"iat":-9}`: "window -9 -6",
		`{"exp":-9223372036854775808}`: "never", `{"iat":9223372036854775807}`: "window 9223372036854775807 9223372036854775807", `[]`: "refused 130", `{"exp":"5"}`: "refused 131", `{"aud":"a"}`: "refused 133", `{`: "refused 31", "{\"a\":\"\xff\"}": "refused 32",
	} {
		mustRun(t, []string{line("policy", asked), line("judge", pays(pay), usualSet)}, "ok", want)
	}
	mustRun(t, []string{line("policy", asked), line("judge", "a.b", usualSet), line("judge", token, "{}"), line("judge", token, set()), line("judge", token+"AA", usualSet), line("judge", token+"A", usualSet), line("verify", "", "", 0), line("judge", "", "")}, "ok", "refused 120", "refused 100", "refused 103", "refused 21", "refused 91", "refused 120", "refused 120")
}

// A payload is told as json prints it: in one line, whatever is in it.
func TestClaimsAreOneLine(t *testing.T) {
	t.Parallel()
	for pay, want := range map[string]string{
		" { \"a\" : [ 1 ,\n2.50e+007\t] ,\r\"b\" : { } } ": `{"a":[1,2.50e+007],"b":{}}`, `{"\u0061\/":"\u000a\n\u0000\"\\\u00e9\ud83d\ude00\u007f"}`: "{\"a/\":\"\\n\\n\\u0000\\\"\\\\é\U0001f600\x7f\"}", `{"":null,"x":[true,false,[],{}]}`: `{"":null,"x":[true,false,[],{}]}`,
		"{\"a\":\"\u2028#\"}": "{\"a\":\"\u2028#\"}",
	} {
		full := strings.Replace(pay, "{", `{"jti":"a","exp":2000,`, 1)
		wanted := strings.Replace(want, "{", `{"jti":"a","exp":2000,`, 1)
		text := `{"payload":` + quoted(signs(full)) + `,"protected":` + quoted(signs(headOf("HS256", "k"))) + `,"signature":` + quoted(strings.Split(pays(full), ".")[2]) + "}"
		mustRun(t, behind(opened, line("verify", pays(pay), usualSet, 5), line("take", pays(full), 100), line("serial", text, usualSet, 5, 1)), "ok", "ok", "ok", "ok "+want, "ok "+wanted, "ok "+wanted+` "k"`)
	}
}

// thumb: a line for each key, in the set's order, and one behind them.
func TestThumb(t *testing.T) {
	t.Parallel()
	const example = `{"kty":"RSA","n":"0vx7agoebGcQSuuPiLJXZptN9nndrQmbXEps2aiAFbWhM78LhWx4cbbfAAtVT86zwu1RK7aPFFxuhDR1L6tSoc_BJECPebWKRXjBZCiFV4n3oknjhMstn64tZ_2W-5JsGY4Hc5n9yBXArwl93lqt7_RN5w6Cf0h4QyQ5v-65YGjQR0_FDW2QvzqY368QQMicAtaSqzs8KJZgnYb9c7d0zgdAZHzu6qMQvRL5hajrn1n91CbOpbISD08qNLyrdkt-bFTWhAI4vMQFh6WeZu0fM4lFd2NcRwr3XPksINHaQ-G_xBniIqbw0Ls1jF44-csFCur-kEgU8awapJzKnqDKgw","e":"AQAB","alg":"RS256","kid":"2011-04-29"}`
	mustRun(t, []string{line("thumb", set(example))}, "key NzbLsXh8uDCcd-6MNwXF4W_7noWXFZAfHkxZsRGC9Xs", "ok")
	mustRun(t, []string{line("thumb", set())}, "ok")
	mustRun(t, []string{line("thumb", set(example, usual.key("k"), `{"kty":"x"}`, `{"kty":"oct"}`, `{"kty":"oct","k":"AA"}`, `{"kty":"RSA","d":1}`, usual.key("k", `,"d":1`), `{"kty":"EC","crv":"x"}`, usual.key("l", `,"use":"enc"`)))},
		"key NzbLsXh8uDCcd-6MNwXF4W_7noWXFZAfHkxZsRGC9Xs", "key "+usual.thumb(), "refused 101", "refused 100", "refused 90", "refused 102", "key "+usual.thumb(), "refused 101", "key "+usual.thumb(), "ok")
	for keys, want := range map[string]string{"": "refused 31", "{": "refused 31", "{}": "refused 100", "[]": "refused 100", `{"keys":[{}]}`: "refused 100", `{"keys":[` + usual.key("k") + `,1]}`: "refused 100", `{"keys":[],"keys":[]}`: "refused 34", strings.Repeat("[", 33): "refused 11"} {
		mustRun(t, []string{line("thumb", keys)}, want)
	}
	var many []string
	for range 300 {
		many = append(many, usual.key("k"))
	}
	mustRun(t, []string{line("thumb", set(many...))}, append(slices.Repeat([]string{"key " + usual.thumb()}, 300), "ok")...)
}

// pem: the first refusal of the four.
func TestPemOrder(t *testing.T) {
	t.Parallel()
	ed, other := edHand(1), edHand(2)
	keys := set(ed.key("e"), usual.key("k"), other.key("twice"), `{"kty":"x","kid":"twice"}`, `{"kty":"x","kid":"x"}`, `{"kty":"OKP","crv":"Ed25519","x":"AA","kid":"short"}`, ed.key("private", `,"d":0`), ed.key("", `,"use":"enc","key_ops":[]`), `{"kty":"OKP"}`)
	for kid, want := range map[string]string{"e": "pem " + quoted(ed.pem()), "": "pem " + quoted(ed.pem()), "k": "refused 90", "twice": "refused 104", "x": "refused 101", "short": "refused 90", "private": "refused 102", "z": "refused 103", "E": "refused 103"} {
		mustRun(t, []string{line("pem", keys, kid)}, want)
		mustRun(t, []string{line("pem", keys+"x", kid), line("pem", "{}", kid), line("pem", set(), kid), line("pem", "", kid)}, "refused 31", "refused 100", "refused 103", "refused 31")
	}
	mustRun(t, []string{line("key", ed.pem()), line("key", ed.pem()+"\n"), line("key", ed.pem()[1:]), line("key", ""), line("key", strings.ReplaceAll(ed.pem(), "\n", "\r\n")), line("key", "-----BEGIN PUBLIC KEY-----\nAAAA\n-----END PUBLIC KEY-----\n")},
		"key {"+ed.members+"}", "refused 92", "refused 92", "refused 92", "refused 92", "refused 80")
}

// serial: the claims, and the kids of all that hold, sorted.
func TestSerial(t *testing.T) {
	t.Parallel()
	one, two, three := secretHand('1', 32), secretHand('2', 32), secretHand('3', 32)
	keys := set(one.key("b\n\""), two.key(""), three.key("a"))
	sign := func(hands ...hand) string {
		var l []string
		for i, h := range hands {
			parts := strings.Split(h.token("HS256", []string{"b\n\"", "", "a"}[i%3], body), ".")
			l = append(l, `{"protected":`+quoted(parts[0])+`,"signature":`+quoted(parts[2])+`}`)
		}
		return `{"payload":` + quoted(signs(body)) + `,"signatures":[` + strings.Join(l, ",") + `]}`
	}
	all := sign(one, two, three)
	ahead := []string{line("policy", asked)}
	for want, answer := range map[int]string{0: "refused 12", -1: "refused 12", 1: "", 2: "", 3: "", 4: "refused 141", 16: "refused 141", 17: "refused 12", high: "refused 12", low: "refused 12", 1<<32 + 1: "refused 12"} {
		if answer == "" {
			answer = "ok " + body + ` "" "a" "b\n\""`
		}
		mustRun(t, behind(ahead, line("serial", all, keys, 5, want)), "ok", answer)
	}
	mustRun(t, behind(ahead, line("serial", sign(one, one, three), keys, 5, 2), line("serial", sign(one, one, three), keys, 5, 3), line("serial", sign(two), keys, 5, 1), line("serial", all, "{}", 5, 1), line("serial", all, keys, 2000, 1), line("serial", all, keys, 1999, 1)),
		"ok", "ok "+body+` "a" "b\n\""`, "refused 141", "refused 141", "refused 141", "refused 141", "ok "+body+` "" "a" "b\n\""`)
	mustRun(t, behind(ahead, line("serial", "{}", keys, 5, 1), line("serial", "{", keys, 5, 1), line("serial", "{", keys, 5, 0), line("serial", all+all, keys, 5, 17), line("policy", "{}"), line("serial", all, keys, 5, 1)), "ok", "refused 140", "refused 31", "refused 12", "refused 12", "ok", "refused 141")
}
