package signet_test

import (
	"fmt"
	"math/rand"
	"slices"
	"strings"
	"testing"

	"signet/signet"
)

// wildly: a text with some bytes put in, taken away and changed.
func wildly(r *rand.Rand, s, with string) string {
	b := []byte(s)
	for range 1 + r.Intn(3) {
		at := r.Intn(len(b) + 1)
		switch c := with[r.Intn(len(with))]; {
		case r.Intn(3) == 0 || at == len(b):
			b = slices.Insert(b, at, c)
		case r.Intn(2) == 0:
			b = slices.Delete(b, at, at+1)
		default:
			b[at] = c
		}
	}
	return string(b)
}

const jsonBytes = `{}[]":,\algsnedu019.- #` + "\r\xff\x00"

// P1: scripts of any bytes, of pieces of lines, and scripts with bytes and lines put in, taken away and changed about.
func TestWild(t *testing.T) {
	t.Parallel()
	r := rand.New(rand.NewSource(8))
	w := drawnWorld(r)
	pieces := []string{"[", "]", "{", "}", `"`, `"len"`, `"take"`, `"policy"`, `"open"`, `"sum"`, `"rotate"`, `"verify"`, `"serial"`, `""`, `"{}"`, `"\"`, ",", ",", ",", "256", "0", "-1", "1.0", "null", " ", "\n", "\n", "\r", "#", "\xff", "\x00", "é"}
	for i := range 6000 {
		var script string
		switch i % 3 {
		case 0:
			b := make([]byte, r.Intn(60))
			r.Read(b)
			script = string(b)
		case 1:
			for range r.Intn(40) {
				script += pick(r, pieces)
			}
		default:
			l := append(slices.Clone(opened), w.script(r, r.Intn(6))...)
			if r.Intn(2) == 0 {
				r.Shuffle(len(l), func(i, j int) { l[i], l[j] = l[j], l[i] })
			}
			script = wildly(r, strings.Join(l, "\n"), jsonBytes+"\n")
		}
		holdRun(t, script)
	}
}

// Every beginning and every end of a script, and every byte left out of it.
func TestCut(t *testing.T) {
	t.Parallel()
	script := strings.Join([]string{line("sum", 256, "a"), line("policy", `{"algs":["A"],"leeway":9}`), "# a", line("open", "has a"), "", line("rule", "a = 1", `{"a":1}`), line("rotate", `{"keys":[]}`, 9, 0), line("take", "a.b.c", 9), line("len"), line("serial", `{"payload":"","protected":"","signature":""}`, "", 0, 1)}, "\n")
	for i := range script {
		holdRun(t, script[:i])
		holdRun(t, script[i:])
		holdRun(t, script[:i]+script[i+1:])
		holdRun(t, script[:i]+"\n"+script[i:])
	}
}

// A line of just MaxKeys bytes is one, a byte more is none, and what is passed over may be of any length.
func TestLongLines(t *testing.T) {
	t.Parallel()
	pad := func(n int) string { return `["sum",256,"` + strings.Repeat("a", n-len(`["sum",256,""]`)) + `"]` }
	most := 1 << 18
	text := strings.Repeat("a", most-len(`["sum",256,""]`))
	told := "sum " + signs(sumOf("HS256", text))
	huge := strings.Repeat("a", 1<<24)
	mustRun(t, []string{pad(most), pad(most + 1), pad(most-1) + "\r", pad(most) + "\r", "#" + huge, huge, pad(most)}, told, none, "sum "+signs(sumOf("HS256", text[1:])), none, none, told)
	blanks := strings.Repeat(" ", most-len(line("len")))
	mustRun(t, behind(opened, blanks+line("len"), line("len")+blanks, line("len")+blanks+" "), "ok", "ok", "ok", "len 0", "len 0", none)
}

// Scripts of very many lines.
func TestManyLines(t *testing.T) {
	t.Parallel()
	if got := signet.Run(strings.Repeat("\n", 1<<22) + strings.Repeat("#\n", 1<<20)); got != "" {
		t.Errorf("27.2: empty lines are answered %.90q", got)
	}
	if got := signet.Run(strings.Repeat("x\n", 1<<18)); got != strings.Repeat("refused 190\n", 1<<18) {
		t.Errorf("27.2: many lines that are none are answered %.90q, %d bytes", got, len(got))
	}
	script, want := behind(opened), []string{"ok", "ok", "ok"}
	for i := range 3000 {
		script, want = append(script, line("open", ""), line("rotate", usualSet, i, 0), line("len")), append(want, "ok", "ok", "len 0")
	}
	mustRun(t, script, want...)
}

// A set of as many keys as a line has room for.
func TestManyKeys(t *testing.T) {
	t.Parallel()
	count := (1<<18 - 100) / len(`{\"kty\":\"\"},`)
	keys := set(slices.Repeat([]string{`{"kty":""}`}, count)...)
	want := append(slices.Repeat([]string{"refused 101"}, count), "ok")
	mustRun(t, []string{line("thumb", keys), line("pem", keys, "")}, append(want, "refused 103")...)
}

// FuzzRun: any script behind one that opens a gate.
func FuzzRun(f *testing.F) {
	r := rand.New(rand.NewSource(9))
	w := drawnWorld(r)
	for range 30 {
		f.Add(strings.Join(w.script(r, 6), "\n"))
	}
	for word, form := range wants {
		f.Add("[" + quoted(word) + strings.NewReplacer("S", `,""`, "N", ",1").Replace(form) + "]")
	}
	f.Add("#\n\n[]\r\n")
	f.Fuzz(func(t *testing.T, script string) {
		holdRun(t, script)
		holdRun(t, strings.Join(opened, "\n")+"\n"+script)
	})
}

// FuzzLine: any values behind each word.
func FuzzLine(f *testing.F) {
	f.Add(asked, usualSet, "k", int64(5), int64(1), `{"a":1}`)
	f.Add(pays(body), usualSet, "", int64(low), int64(high), edHand(1).pem())
	f.Fuzz(func(t *testing.T, one, two, three string, n, m int64, text string) {
		script := slices.Clone(opened)
		for _, s := range []string{one, two, three, text} {
			script = append(script, line("policy", s), line("thumb", s), line("key", s), line("sum", n, s), line("open", s), line("take", s, n), line("rotate", s, n, m), line("len"))
			for _, other := range []string{one, two, text} {
				script = append(script, line("pem", s, other), line("rule", s, other), line("judge", s, other), line("verify", s, other, m), line("serial", s, other, n, m))
			}
		}
		holdRun(t, strings.Join(script, "\n"))
	})
}

// FuzzPolicy: any text, and any member.
func FuzzPolicy(f *testing.F) {
	f.Add(`{"algs":["HS256"],"need":[],"iss":"","aud":"a","typ":"t","leeway":600}`, "algs", `["a"]`)
	f.Add(`{"leeway":-0}`, "leeway", "601")
	f.Fuzz(func(t *testing.T, text, name, value string) {
		holdPolicy(t, text)
		holdPolicy(t, fmt.Sprintf(`{%s:%s}`, quoted(name), value))
	})
}
