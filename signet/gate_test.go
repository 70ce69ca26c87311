package signet_test

import (
	"fmt"
	"slices"
	"strings"
	"testing"
)

// Without a gate, rotate, take and len are no lines, be they well formed or not; a gate that is refused is none.
func TestNoGate(t *testing.T) {
	t.Parallel()
	gated := []string{line("rotate", usualSet, 0, 0), line("rotate", "", 0, -1), line("take", pays(body), 5), line("take", "", 5), line("len")}
	nothing := []string{none, none, none, none, none}
	mustRun(t, gated, nothing...)
	mustRun(t, behind([]string{line("policy", asked)}, gated...), behind([]string{"ok"}, nothing...)...)
	mustRun(t, behind([]string{line("open", "("), line("open", strings.Repeat("a", 1025)), line("open", strings.Repeat("(", 33)), `["open"]`, `["open",1]`}, gated...), behind([]string{"refused 180", "refused 10", "refused 11", none, none}, nothing...)...)
	mustRun(t, behind([]string{line("open", "")}, gated...), "ok", "ok", "refused 12", "refused 112", "refused 120", "len 0")
}

// open: a gate of the policy as it is then, and of the rule; a new one takes the old one's place and knows nothing of it, a refused one changes nothing.
func TestOpen(t *testing.T) {
	t.Parallel()
	token, other := pays(body), pays(`{"jti":"b","exp":2000,"bad":1}`)
	taken, bad := "ok "+body, `ok {"jti":"b","exp":2000,"bad":1}`
	mustRun(t, behind(opened, line("take", token, 150), line("take", token, 150), line("take", other, 150), line("len"), line("open", "not has bad"), line("len"), line("take", token, 5), line("rotate", usualSet, 5, 0), line("take", other, 5), line("take", token, 5), line("len")),
		"ok", "ok", "ok", taken, "refused 160", bad, "len 2", "ok", "len 0", "refused 103", "ok", "refused 181", taken, "len 1")
	mustRun(t, behind(opened, line("take", token, 150), line("open", "("), line("open", "has"), line("take", token, 150), line("len"), line("take", other, 149), line("take", other, 150)), "ok", "ok", "ok", taken, "refused 180", "refused 180", "refused 160", "len 1", "refused 162", bad)
	// A policy that comes behind does not count for a gate that stands.
	mustRun(t, behind(opened, line("policy", "{}"), line("take", token, 150), line("verify", token, usualSet, 150), line("open", ""), line("rotate", usualSet, 0, 0), line("take", token, 150)), "ok", "ok", "ok", "ok", taken, "refused 112", "ok", "ok", "refused 112")
	mustRun(t, []string{line("open", ""), line("rotate", usualSet, 0, 0), line("policy", asked), line("take", token, 150), line("open", ""), line("take", token, 150), line("rotate", usualSet, 150, 0), line("take", token, 150)}, "ok", "ok", "ok", "refused 112", "ok", "refused 103", "ok", taken)
	// The leeway is the gate's.
	mustRun(t, behind([]string{line("policy", `{"algs":["HS256"],"leeway":10}`), line("open", ""), line("policy", asked), line("rotate", usualSet, 0, 0)}, line("take", token, 2009), line("take", token, 2009), line("take", token, 2010), line("len")), "ok", "ok", "ok", "ok", taken, "refused 160", "refused 134", "len 1")
}

// rotate: the code of the gate's ring, which goes on.
func TestRotate(t *testing.T) {
	t.Parallel()
	other := secretHand('y', 32)
	otherSet := set(other.key("l"))
	later := other.token("HS256", "l", `{"jti":"b","exp":2000}`)
	mustRun(t, behind(opened, line("rotate", otherSet, 99, 0), line("rotate", otherSet, 100, -1), line("rotate", otherSet, 100, int64(1)<<32+1), line("rotate", "{", 100, 0), line("rotate", "{}", 100, 0), line("take", later, 100), line("rotate", otherSet, 200, 50), line("take", later, 200), line("take", pays(body), 249), line("take", pays(`{"jti":"c","exp":2000}`), 250)),
		"ok", "ok", "ok", "refused 162", "refused 12", "refused 12", "refused 31", "refused 100", "refused 103", "ok", `ok {"jti":"b","exp":2000}`, "ok "+body, "refused 103")
	script, want := slices.Clone(opened), []string{"ok", "ok", "ok"}
	for range 7 {
		script, want = append(script, line("rotate", usualSet, 100, int64(1)<<32)), append(want, "ok")
	}
	mustRun(t, append(script, line("rotate", usualSet, 100, 5), line("rotate", usualSet, 4294967396, 5)), append(want, "refused 161", "ok")...)
}

// take: the gate's codes, and the book goes on from line to line.
func TestTake(t *testing.T) {
	t.Parallel()
	for pay, want := range map[string]string{
		`{"exp":2000}`: "refused 137", `{"jti":"a"}`: "refused 137", `{"jti":1,"exp":2000}`: "refused 131", `[]`: "refused 130", `{"jti":"` + strings.Repeat("a", 1023) + `","exp":2000}`: "refused 10", `{"jti":"a","exp":150}`: "refused 134", `{"jti":"a","exp":2000,"nbf":151}`: "refused 135", `{"jti":"a","exp":2000,"iat":151}`: "refused 136", `{"jti":"a","exp":2000,"aud":"a"}`: "refused 133",
	} {
		mustRun(t, behind(opened, line("take", pays(pay), 150), line("take", pays(body), 149), line("take", pays(body), 150), line("len")), "ok", "ok", "ok", want, "refused 162", "ok "+body, "len 1")
	}
	mustRun(t, behind(opened, line("take", "", 5), line("take", "a.b", 150), line("take", secretHand('y', 32).token("HS256", "k", body), 150), line("take", pays(body), 150), line("take", pays(body), 1999), line("take", pays(body), 2000), line("take", pays(`{"jti":"a","exp":3000}`), 2000), line("len")),
		"ok", "ok", "ok", "refused 162", "refused 120", "refused 91", "ok "+body, "refused 160", "refused 134", `ok {"jti":"a","exp":3000}`, "len 1")
}

// A gate that is full refuses, until tokens die.
func TestFull(t *testing.T) {
	t.Parallel()
	script, want := slices.Clone(opened), []string{"ok", "ok", "ok"}
	for i := range 4096 {
		pay := fmt.Sprintf(`{"jti":"%d","exp":%d}`, i, 1000+i%2)
		script, want = append(script, line("take", pays(pay), 150)), append(want, "ok "+pay)
	}
	script = append(script, line("len"), line("take", pays(body), 999), line("len"), line("take", pays(body), 1000), line("len"))
	mustRun(t, script, append(want, "len 4096", "refused 161", "len 4096", "ok "+body, "len 2049")...)
}

// A line that is none, and one that is passed over, change nothing.
func TestNothingChanges(t *testing.T) {
	t.Parallel()
	script := behind(opened, line("take", pays(body), 150), line("take", pays(body), 150), line("len"), line("verify", pays(body), usualSet, 150), line("judge", pays(body), usualSet))
	want := []string{"ok", "ok", "ok", "ok " + body, "refused 160", "len 1", "ok " + body, "window -9223372036854775808 1999"}
	mustRun(t, script, want...)
	for _, junk := range []string{"x", `["policy","{}",""]`, `["policy",{}]`, `["open"]`, `["open","",0]`, `["rotate","{\"keys\":[]}",9223372036854775807]`, `["rotate","{\"keys\":[]}",9223372036854775807,0.0]`, `["take","",9223372036854775807,0]`, `["take",9223372036854775807,""]`, `["Open",""]`, `["len",0]`} {
		for at := range len(script) + 1 {
			mustRun(t, slices.Insert(slices.Clone(script), at, junk), slices.Insert(slices.Clone(want), at, none)...)
		}
	}
	for _, quiet := range []string{"", "#", "#" + line("policy", "{}"), "# " + line("open", "")} {
		for at := range len(script) + 1 {
			mustRun(t, slices.Insert(slices.Clone(script), at, quiet), want...)
		}
	}
	for _, refused := range [][2]string{{line("policy", "{"), "refused 31"}, {line("policy", `{"x":0}`), "refused 12"}, {line("open", "("), "refused 180"}, {line("verify", "", "", 0), "refused 120"}, {line("thumb", ""), "refused 31"}, {line("serial", "", "", 0, 0), "refused 12"}, {line("rule", "", ""), "refused 31"}, {line("sum", 256, ""), "sum 47DEQpj8HBSa-_TImW-5JCeuQeRkm5NMpJWZG3hSuFU"}} {
		for at := range len(script) + 1 {
			mustRun(t, slices.Insert(slices.Clone(script), at, refused[0]), slices.Insert(slices.Clone(want), at, refused[1])...)
		}
	}
}
