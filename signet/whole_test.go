package signet_test

import (
	"crypto/ecdh"
	"encoding/base64"
	stdjson "encoding/json"
	"fmt"
	"slices"
	"strings"
	"testing"

	"signet/signet"
)

// The whole, from end to end, against Go's own library.

// wholeSet: a set of all hands; the kid of each is its place.
func wholeSet() string {
	var keys []string
	for i, h := range hands() {
		keys = append(keys, h.key(fmt.Sprint(i), `,"use":"sig","key_ops":["verify"]`))
	}
	return set(keys...)
}

// Each of the twelve algorithms: its token is taken by its key alone, and under a policy that lists it alone.
func TestAlgorithms(t *testing.T) {
	t.Parallel()
	keys := wholeSet()
	all := []string{}
	for _, h := range hands()[:1] {
		all = append(all, h.algs...)
	}
	for _, h := range hands()[2:] {
		all = append(all, h.algs...)
	}
	if len(all) != 12 {
		t.Fatal(all)
	}
	for i, h := range hands() {
		for _, alg := range h.algs {
			kid := fmt.Sprint(i)
			pay := `{"alg":` + quoted(alg) + `,"exp":2000}`
			token := h.token(alg, kid, pay)
			spoilt := []byte(token)
			spoilt[strings.Index(token, ".")+3] ^= 1
			rest := slices.DeleteFunc(slices.Clone(all), func(name string) bool { return name == alg })
			mustRun(t, []string{
				line("policy", `{"algs":[`+quoted(alg)+`]}`), line("verify", token, keys, 1999), line("judge", token, keys), line("verify", token, keys, 2000), line("verify", string(spoilt), keys, 1999), line("verify", h.token(alg, fmt.Sprint((i+3)%6), pay), keys, 1999),
				line("policy", `{"algs":["`+strings.Join(rest, `","`)+`"]}`), line("verify", token, keys, 1999), line("judge", token, keys),
				line("policy", `{"algs":["`+strings.Join(all, `","`)+`"]}`), line("verify", token, keys, 1999),
			}, "ok", "ok "+pay, "window -9223372036854775808 1999", "refused 134", "refused 91", "refused 105", "ok", "refused 112", "refused 112", "ok", "ok "+pay)
		}
	}
}

// Sixteen signatures of all kinds over one payload.
func TestAllSign(t *testing.T) {
	t.Parallel()
	var sigs, kids []string
	for i, h := range hands() {
		for _, alg := range h.algs[:min(3, len(h.algs))] {
			parts := strings.Split(h.token(alg, fmt.Sprint(i), body), ".")
			sigs = append(sigs, `{"protected":`+quoted(parts[0])+`,"signature":`+quoted(parts[2])+`}`)
		}
		kids = append(kids, quoted(fmt.Sprint(i)))
	}
	text := `{"payload":` + quoted(signs(body)) + `,"signatures":[` + strings.Join(sigs, ",") + `]}`
	all := `{"algs":["HS256","HS384","HS512","RS256","RS384","RS512","PS256","PS384","PS512","ES256","ES384","EdDSA"]}`
	mustRun(t, []string{line("policy", all), line("serial", text, wholeSet(), 5, 6), line("serial", text, wholeSet(), 5, 7), line("policy", `{"algs":["ES256","EdDSA"]}`), line("serial", text, wholeSet(), 5, 2), line("serial", text, wholeSet(), 5, 3)},
		"ok", "ok "+body+" "+strings.Join(kids, " "), "refused 141", "ok", "ok "+body+` "3" "5"`, "refused 141")
}

// Thumbprints, PEM texts and keys are the library's, and go there and back.
func TestKeysThereAndBack(t *testing.T) {
	t.Parallel()
	keys := wholeSet()
	wanted := []string{}
	for _, h := range hands() {
		wanted = append(wanted, "key "+h.thumb())
	}
	mustRun(t, []string{line("thumb", keys)}, append(wanted, "ok")...)
	for i, h := range hands() {
		if h.public == nil {
			mustRun(t, []string{line("pem", keys, fmt.Sprint(i))}, "refused 90")
			continue
		}
		mustRun(t, []string{line("pem", keys, fmt.Sprint(i)), line("key", h.pem())}, "pem "+quoted(h.pem()), "key {"+h.members+"}")
		// What one line answers is another line's value.
		told := strings.TrimSuffix(strings.TrimPrefix(signet.Run(line("pem", keys, fmt.Sprint(i))), "pem "), "\n")
		object := strings.TrimSuffix(strings.TrimPrefix(signet.Run(`["key",`+told+`]`), "key "), "\n")
		mustRun(t, []string{line("thumb", set(object))}, "key "+h.thumb(), "ok")
	}
}

// A point that the library says is on no curve, and one of another curve.
func TestWrongPoints(t *testing.T) {
	t.Parallel()
	h := hands()[3]
	at := strings.Index(h.members, `"y":"`) + 8
	spoilt := []byte(h.members)
	spoilt[at] = map[bool]byte{true: 'B', false: 'A'}[spoilt[at] == 'A']
	var k struct{ X, Y string }
	must(0, stdjson.Unmarshal([]byte("{"+string(spoilt)+"}"), &k))
	x, y := must(base64.RawURLEncoding.DecodeString(k.X)), must(base64.RawURLEncoding.DecodeString(k.Y))
	if _, err := ecdh.P256().NewPublicKey(append(append([]byte{4}, x...), y...)); err == nil {
		t.Fatal("the spoilt point is one")
	}
	keys := set("{"+string(spoilt)+`,"kid":"a"}`, strings.Replace(h.key("b"), "P-256", "P-384", 1))
	token, other := h.token("ES256", "a", body), h.token("ES256", "b", body)
	mustRun(t, []string{line("thumb", keys), line("pem", keys, "a"), line("pem", keys, "b"), line("policy", `{"algs":["ES256"]}`), line("verify", token, keys, 5), line("verify", other, keys, 5), line("judge", other, keys)},
		"refused 90", "refused 90", "ok", "refused 90", "refused 90", "ok", "refused 90", "refused 105", "refused 105")
}

// A gate under keys that change, of all kinds.
func TestGateOfAllKinds(t *testing.T) {
	t.Parallel()
	script := []string{line("policy", `{"algs":["HS256","PS384","ES256","ES384","EdDSA"],"need":["jti"]}`), line("open", `n >= 0`)}
	want := []string{"ok", "ok"}
	for i, alg := range []string{0: "HS256", 2: "PS384", 3: "ES256", 4: "ES384", 5: "EdDSA"} {
		if alg == "" {
			continue
		}
		h, kid, now := hands()[i], fmt.Sprint(i), 100*i
		pay := func(n int) string { return fmt.Sprintf(`{"jti":"%d","exp":2000,"n":%d}`, i, n) }
		script = append(script, line("rotate", set(h.key(kid)), now, 10), line("take", h.token(alg, kid, pay(-1)), now), line("take", h.token(alg, kid, pay(i)), now), line("take", h.token(alg, kid, pay(i)), now), line("take", hands()[0].token("HS256", "0", pay(7)), now+10))
		want = append(want, "ok", "refused 181", "ok "+pay(i), "refused 160")
		switch i {
		case 0:
			want = append(want, "refused 160")
		default:
			want = append(want, "refused 103")
		}
	}
	mustRun(t, append(script, line("len")), append(want, "len 5")...)
}

// Whoever reads an answer by the library reads what stood in the payload.
func TestAnswersAreJson(t *testing.T) {
	t.Parallel()
	for _, pay := range []string{`{}`, `{"a":[1.50,{"b":"\u00e9\n"}],"exp":2000}`, `{"\"":"\\","/":"\/","\u007f":"\u2028"}`} {
		for _, told := range lines(t, signet.Run(line("policy", asked)+"\n"+line("verify", pays(pay), usualSet, 5)))[1:] {
			var got, want any
			must(0, stdjson.Unmarshal([]byte(strings.TrimPrefix(told, "ok ")), &got))
			must(0, stdjson.Unmarshal([]byte(pay), &want))
			if fmt.Sprint(got) != fmt.Sprint(want) {
				t.Errorf("27.2: %s is told as %s", pay, told)
			}
		}
	}
}
