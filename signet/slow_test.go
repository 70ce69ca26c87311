package signet_test

import (
	"fmt"
	"reflect"
	"slices"
	"strings"
	"testing"

	"signet/api"
	"signet/b64"
	"signet/gate"
	"signet/json"
	"signet/jwk"
	"signet/jwt"
	"signet/keyset"
	"signet/rules"
	"signet/serial"
	"signet/sha"
	"signet/signet"
	"signet/spki"
)

// The chapter's words, over the layers below.

// wantPolicy: 27.1.
func wantPolicy(text string) (api.Policy, api.Errno) {
	v, code, _ := json.Parse(text)
	if code != api.OK {
		return api.Policy{}, code
	}
	if v[0].Kind != api.Object {
		return api.Policy{}, api.ErrPolicy
	}
	known := 0
	for _, name := range []string{"algs", "need", "iss", "aud", "typ", "leeway"} {
		if json.Member(v, 0, name) >= 0 {
			known++
		}
	}
	var p api.Policy
	rightly := known == v[0].Kids &&
		textsIn(v, "algs", &p.Algs) && textsIn(v, "need", &p.Need) &&
		textIn(v, "iss", &p.Iss, &p.HasIss) && textIn(v, "aud", &p.Aud, &p.HasAud) && textIn(v, "typ", &p.Typ, &p.HasTyp)
	if at := json.Member(v, 0, "leeway"); at >= 0 {
		p.Leeway = v[at].Int
		rightly = rightly && v[at].Whole && p.Leeway >= 0 && p.Leeway <= 600
	}
	if !rightly {
		return api.Policy{}, api.ErrPolicy
	}
	return p, api.OK
}

func textIn(v []api.Node, name string, text *string, has *bool) bool {
	at := json.Member(v, 0, name)
	if at < 0 {
		return true
	}
	*text, *has = v[at].Text, true
	return v[at].Kind == api.String
}

func textsIn(v []api.Node, name string, texts *[]string) bool {
	at := json.Member(v, 0, name)
	if at < 0 {
		return true
	}
	for _, kid := range json.Kids(v, at) {
		if v[kid].Kind != api.String {
			return false
		}
		*texts = append(*texts, v[kid].Text)
	}
	return v[at].Kind == api.List
}

func same(p, q api.Policy) bool {
	lists := slices.Equal(p.Algs, q.Algs) && slices.Equal(p.Need, q.Need)
	p.Algs, p.Need, q.Algs, q.Need = nil, nil, nil, nil
	return lists && reflect.DeepEqual(p, q)
}

// holdPolicy: Policy is asked, and its answer held against the words.
func holdPolicy(t *testing.T, text string) (api.Policy, api.Errno) {
	t.Helper()
	p, code := signet.Policy(text)
	want, wanted := wantPolicy(text)
	if code != wanted || !same(p, want) {
		t.Fatalf("27.1: Policy(%.900q) = %+v, %d, want %+v, %d", text, p, int(code), want, int(wanted))
	}
	if code != api.OK && !reflect.DeepEqual(p, api.Policy{}) {
		t.Fatalf("P4: Policy(%.900q) = %#v, %d", text, p, int(code))
	}
	return p, code
}

const none = "refused 190"

// slow: a script under way.
type slow struct {
	policy api.Policy
	gate   *gate.Gate
}

// wantRun: 27.2, a line of the answer each.
func wantRun(script string) []string {
	var x slow
	var l []string
	for _, line := range strings.Split(script, "\n") {
		if len(line) > 0 && !strings.HasPrefix(line, "#") {
			l = append(l, x.answer(line)...)
		}
	}
	return l
}

// values: of a line: its word and, behind a stroke, a sign for each further value: S a string, N a whole number, a stop any other; the strings and the numbers, each in order.
func values(line string) (form string, texts []string, numbers []int64) {
	v, code, _ := json.Parse(line)
	if code != api.OK || v[0].Kind != api.List {
		return "", nil, nil
	}
	for i, at := range json.Kids(v, 0) {
		switch n := v[at]; {
		case i == 0 && n.Kind != api.String:
			return "", nil, nil
		case i == 0:
			form = n.Text + "/"
		case n.Kind == api.String:
			form, texts = form+"S", append(texts, n.Text)
		case n.Kind == api.Number && n.Whole:
			form, numbers = form+"N", append(numbers, n.Int)
		default:
			form += "."
		}
	}
	return form, texts, numbers
}

func coded(code api.Errno) string {
	if code == api.OK {
		return "ok"
	}
	return fmt.Sprintf("refused %d", int(code))
}

// ended: the row of the table if nothing refuses.
func ended(code api.Errno, row string, with ...any) []string {
	if code != api.OK {
		return []string{coded(code)}
	}
	return []string{fmt.Sprintf(row, with...)}
}

func shown(v []api.Node) string {
	text, code := json.Print(v)
	if code != api.OK {
		panic(fmt.Sprint(v))
	}
	return text
}

func (x *slow) answer(line string) []string {
	form, s, n := values(line)
	switch form {
	case "policy/S":
		p, code := wantPolicy(s[0])
		if code == api.OK {
			x.policy = p
		}
		return ended(code, "ok")
	case "verify/SSN":
		c, code := jwt.Verify(s[0], s[1], x.policy, n[0])
		return taken(c, code)
	case "judge/SS":
		_, w, code := jwt.Judge(s[0], s[1], x.policy)
		if code == api.OK && w.Empty {
			return []string{"never"}
		}
		return ended(code, "window %d %d", w.From, w.To)
	case "thumb/S":
		return thumbs(s[0])
	case "pem/SS":
		return pemLine(s[0], s[1])
	case "key/S":
		k, code := spki.Unpem(s[0])
		text, _ := jwk.Text(k)
		return ended(code, "key %s", text)
	case "sum/NS":
		h, ok := map[int64]api.Hash{256: api.SHA256, 384: api.SHA384, 512: api.SHA512}[n[0]]
		if !ok {
			return []string{none}
		}
		return ended(api.OK, "sum %s", b64.Encode(sha.Sum(h, []byte(s[0]))))
	case "rule/SS":
		v, code, _ := json.Parse(s[1])
		if code != api.OK {
			return ended(code, "")
		}
		return ended(rules.Allow(s[0], v), "ok")
	case "serial/SSNN":
		c, kids, code := serial.Verify(s[0], s[1], x.policy, n[0], int(n[1]))
		l := taken(c, code)
		for _, kid := range kids {
			l[0] += " " + quoted(kid)
		}
		return l
	case "open/S":
		g, code := gate.New(x.policy, s[0])
		if code == api.OK {
			x.gate = g
		}
		return ended(code, "ok")
	}
	return x.gated(form, s, n)
}

// gated: what there is with a gate alone.
func (x *slow) gated(form string, s []string, n []int64) []string {
	if x.gate != nil {
		switch form {
		case "rotate/SNN":
			return ended(x.gate.Rotate(s[0], n[0], n[1]), "ok")
		case "take/SN":
			return taken(x.gate.Take(s[0], n[0]))
		case "len/":
			return ended(api.OK, "len %d", x.gate.Len())
		}
	}
	return []string{none}
}

func taken(c api.Claims, code api.Errno) []string {
	if code != api.OK {
		return ended(code, "")
	}
	return ended(code, "ok %s", shown(c.Value))
}

func thumbs(keys string) []string {
	entries, code := keyset.Parse(keys)
	if code != api.OK {
		return ended(code, "")
	}
	var l []string
	for _, x := range entries {
		k, code := jwk.Read(x.Value, 0)
		text, _ := jwk.Thumbprint(k)
		l = append(l, ended(code, "key %s", text)...)
	}
	return append(l, "ok")
}

func pemLine(keys, kid string) []string {
	entries, code := keyset.Parse(keys)
	var x api.Entry
	if code == api.OK {
		x, code = keyset.Find(entries, kid)
	}
	var k api.Key
	if code == api.OK {
		k, code = jwk.Read(x.Value, 0)
	}
	var text string
	if code == api.OK {
		text, code = spki.Pem(k)
	}
	return ended(code, "pem %s", quoted(text))
}

// lines: of an answer; each has its end.
func lines(t *testing.T, answer string) []string {
	t.Helper()
	if answer == "" {
		return nil
	}
	rest, ok := strings.CutSuffix(answer, "\n")
	if !ok {
		t.Fatalf("27.2: the last line has no end: %.900q", answer)
	}
	return strings.Split(rest, "\n")
}

// holdRun: a script is run, and its answer held against the words.
func holdRun(t *testing.T, script string) []string {
	t.Helper()
	got, want := lines(t, signet.Run(script)), wantRun(script)
	for i := range max(len(got), len(want)) {
		if i >= len(got) || i >= len(want) || got[i] != want[i] {
			t.Fatalf("27.2: Run(%.1500q): line %d of the answer:\n%.900q\nwant\n%.900q", script, i, got[min(i, len(got)):], want[min(i, len(want)):])
		}
	}
	return got
}

// mustRun: the answer is these lines.
func mustRun(t *testing.T, script []string, want ...string) {
	t.Helper()
	if got := holdRun(t, strings.Join(script, "\n")); !slices.Equal(got, want) {
		t.Fatalf("27.2: Run(%.1500q):\n%.1500q\nwant\n%.1500q", script, got, want)
	}
}

// line: of a script: a word, and strings and whole numbers behind it.
func line(word string, with ...any) string {
	pieces := []string{quoted(word)}
	for _, x := range with {
		switch x := x.(type) {
		case string:
			pieces = append(pieces, quoted(x))
		default:
			pieces = append(pieces, fmt.Sprint(x))
		}
	}
	return "[" + strings.Join(pieces, ",") + "]"
}
