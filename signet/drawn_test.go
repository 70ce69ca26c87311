package signet_test

import (
	"fmt"
	"math/rand"
	"slices"
	"strings"
	"testing"

	"signet/api"
	"signet/signet"
)

func pick[T any](r *rand.Rand, of []T) T { return of[r.Intn(len(of))] }

// world: what the lines of drawn scripts are made of.
type world struct {
	policies, tokens, sets, rules, payloads, pems, serials []string
}

func drawnPay(r *rand.Rand) string {
	l := []string{fmt.Sprintf(`"jti":"%d"`, r.Intn(9)), fmt.Sprintf(`"exp":%d`, pick(r, []int{105, 120, 150, 2000}))}
	for _, more := range []string{`"iss":"i"`, `"aud":["a","b"]`, `"nbf":105`, `"iat":125`, `"sub":"\u0073"`, `"n":[1,{"m":2.5}]`, `"sub":7`} {
		if r.Intn(9) == 0 {
			l = append(l, more)
		}
	}
	if r.Intn(9) == 0 {
		l = l[1:]
	}
	r.Shuffle(len(l), func(i, j int) { l[i], l[j] = l[j], l[i] })
	return "{" + strings.Join(l, ",") + "}"
}

func drawnWorld(r *rand.Rand) *world {
	by := []hand{secretHand('a', 32), secretHand('b', 64), secretHand('c', 48), secretHand('d', 100), edHand(8)}
	kids := []string{"k", "l", "", "\"\n", "m"}
	w := &world{}
	for range 40 {
		at := r.Intn(len(by))
		alg := pick(r, by[at].algs)
		pay := drawnPay(r)
		w.payloads = append(w.payloads, pay)
		w.tokens = append(w.tokens, by[at].token(alg, kids[at], pay))
		if r.Intn(6) == 0 {
			w.tokens = append(w.tokens, pick(r, by).token("HS256", kids[at], pay))
		}
		var sigs []string
		for range 1 + r.Intn(5) {
			at := r.Intn(len(by))
			parts := strings.Split(by[at].token(pick(r, by[at].algs), kids[at], pay), ".")
			sigs = append(sigs, `{"protected":`+quoted(parts[0])+`,"signature":`+quoted(parts[2])+`}`)
		}
		w.serials = append(w.serials, `{"payload":`+quoted(signs(pay))+`,"signatures":[`+strings.Join(sigs, ",")+`]}`)
		var keys []string
		for i, h := range by {
			if r.Intn(9) > 0 {
				keys = append(keys, h.key(kids[i], pick(r, []string{"", "", "", "", "", "", `,"use":"sig"`, `,"use":"enc"`, `,"d":0`, `,"alg":"EdDSA"`})))
			}
		}
		if r.Intn(6) == 0 {
			keys = append(keys, pick(r, []string{`{"kty":"x"}`, `{"kty":"oct","kid":"k"}`, `{"kid":"k"}`, `{"kty":"EC","crv":"P-256","kid":"z"}`}))
		}
		w.sets = append(w.sets, set(keys...))
		w.policies = append(w.policies, drawnPolicy(r), `{"algs":["HS256","HS384","HS512","EdDSA"]}`, `{"algs":["HS256","HS384","HS512","EdDSA"],"leeway":10}`, pick(r, []string{`{"algs":["HS256","EdDSA"],"leeway":10}`, `{"algs":["HS512","HS384","EdDSA"],"iss":"i"}`}))
	}
	w.tokens = append(w.tokens, "", "..", "a.b", "e30..")
	w.sets = append(w.sets, "", "{}", `{"keys":[]}`)
	w.rules = []string{"", "", "", "has jti", "not has n", `n.1.m = 2.5 or exp < 1000`, `aud contains "a"`, "(", "has", strings.Repeat("not ", 33)}
	w.payloads = append(w.payloads, "", "[]", "1", `{"a":1,"a":1}`)
	w.pems = []string{"", "x", edHand(7).pem(), edHand(8).pem(), edHand(8).pem() + "\n"}
	return w
}

// line: a drawn one, at clocks from this on.
func (w *world) line(r *rand.Rand, clock int) string {
	now := clock + pick(r, []int{0, 0, 0, 1, 3, -1})
	switch r.Intn(24) {
	case 0, 1:
		return line("policy", pick(r, w.policies))
	case 2, 3, 4:
		return line("verify", pick(r, w.tokens), pick(r, w.sets), now)
	case 5, 6:
		return line("judge", pick(r, w.tokens), pick(r, w.sets))
	case 7:
		return line("thumb", pick(r, w.sets))
	case 8:
		return line("pem", pick(r, w.sets), pick(r, []string{"k", "l", "", "\"\n", "m", "z"}))
	case 9:
		return line("key", pick(r, w.pems))
	case 10:
		return line("sum", pick(r, []int{256, 384, 512, 1}), pick(r, w.payloads))
	case 11:
		return line("rule", pick(r, w.rules), pick(r, w.payloads))
	case 12, 13:
		return line("serial", pick(r, w.serials), pick(r, w.sets), now, r.Intn(5))
	case 14:
		return line("open", pick(r, w.rules))
	case 15, 16:
		return line("rotate", pick(r, w.sets), now, pick(r, []int{0, 1, 5, 50, -1}))
	case 17, 18, 19, 20:
		return line("take", pick(r, w.tokens), now)
	case 21:
		return line("len")
	case 22:
		return pick(r, []string{"", "#", "# a", "\r", "x", "[]", `["len",1]`, `["sum",1.0,""]`})
	}
	return wildly(r, line("take", pick(r, w.tokens), now), jsonBytes)
}

func (w *world) script(r *rand.Rand, count int) []string {
	var l []string
	clock := 100
	if r.Intn(2) == 0 {
		l = []string{line("policy", w.policies[1]), line("open", "has jti or not has n"), line("rotate", pick(r, w.sets), clock, 5)}
	}
	for range count {
		l = append(l, w.line(r, clock))
		clock += r.Intn(20) / 18
	}
	return l
}

// Drawn scripts: each kind of line is told as the words have it, and each is met.
func TestDrawnScripts(t *testing.T) {
	t.Parallel()
	r := rand.New(rand.NewSource(3))
	met := map[string]int{}
	for range 12 {
		w := drawnWorld(r)
		for range 10 {
			script := w.script(r, 20+r.Intn(80))
			for _, told := range holdRun(t, strings.Join(script, "\n")) {
				kind := strings.SplitN(told, " ", 2)[0]
				if kind == "refused" {
					kind = told
				}
				met[kind]++
			}
		}
	}
	for _, kind := range []string{"ok", "never", "window", "key", "pem", "sum", "len", none, "refused 12", "refused 31", "refused 34", "refused 90", "refused 91", "refused 100", "refused 101", "refused 102", "refused 103", "refused 104", "refused 105", "refused 112", "refused 120", "refused 130", "refused 131", "refused 132", "refused 133", "refused 134", "refused 135", "refused 137", "refused 141", "refused 160", "refused 162", "refused 180", "refused 181"} {
		if met[kind] < 3 {
			t.Errorf("%q is met %d times only: %v", kind, met[kind], met)
		}
	}
}

// What a line is answered hangs on the lines ahead of it, and on none behind: the answer to a script's beginning begins its answer.
func TestBeginnings(t *testing.T) {
	t.Parallel()
	r := rand.New(rand.NewSource(4))
	w := drawnWorld(r)
	for range 10 {
		script := w.script(r, 25)
		whole := holdRun(t, strings.Join(script, "\n"))
		for at := range script {
			first := holdRun(t, strings.Join(script[:at], "\n"))
			if len(first) > len(whole) || !slices.Equal(first, whole[:len(first)]) {
				t.Fatalf("27.2: %q is answered %q, and its beginning %q", script, whole, first)
			}
		}
	}
}

// 27.3: each call begins anew, whatever was run before it; a script cut in two is not one.
func TestAnew(t *testing.T) {
	t.Parallel()
	token := pays(body)
	signet.Run(strings.Join(behind(opened, line("take", token, 150)), "\n"))
	mustRun(t, []string{line("verify", token, usualSet, 150), line("len"), line("take", token, 150), line("rotate", usualSet, 0, 0)}, "refused 112", none, none, none)
	mustRun(t, behind(opened, line("take", token, 150)), "ok", "ok", "ok", "ok "+body)
	mustRun(t, behind(opened, line("take", token, 120), line("len")), "ok", "ok", "ok", "ok "+body, "len 1")
	mustRun(t, []string{line("open", ""), line("rotate", usualSet, -5, 0), line("take", token, -5), line("len")}, "ok", "ok", "refused 112", "len 0")
	r := rand.New(rand.NewSource(5))
	w := drawnWorld(r)
	for range 20 {
		script := strings.Join(w.script(r, 40), "\n")
		first := signet.Run(script)
		signet.Run(strings.Join(w.script(r, 10), "\n"))
		if again := signet.Run(script); again != first {
			t.Fatalf("27.3: Run(%.900q) = %.900q, and then %.900q", script, first, again)
		}
	}
}

// Whether a line is refused by the code of a layer or is none: the numbers of all codes stand in the lines as api has them.
func TestCodesAreNumbers(t *testing.T) {
	t.Parallel()
	for want, script := range map[api.Errno]string{api.ErrPolicy: line("policy", "[]"), api.ErrJson: line("policy", ""), api.ErrDots: line("verify", "", "", 0), api.ErrPem: line("key", ""), api.ErrMember: line("thumb", "{}"), api.ErrRule: line("open", "("), api.ErrScript: "x", api.ErrFew: line("serial", `{"payload":"","protected":"","signature":""}`, "", 0, 1)} {
		if got, wanted := signet.Run(script), fmt.Sprintf("refused %d\n", int(want)); got != wanted {
			t.Errorf("27.2: Run(%q) = %q, want %q", script, got, wanted)
		}
	}
}
