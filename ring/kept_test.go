package ring

import (
	"strings"
	"testing"

	"signet/api"
)

// texts: all that a ring holds in its list, the spare room too.
func texts(r *Ring) string {
	l := []string{}
	for _, s := range r.sets[:cap(r.sets)] {
		if s.text != "" {
			l = append(l, strings.TrimSpace(s.text))
		}
	}
	return strings.Join(l, " ")
}

// What has ended or been dropped is not kept, whoever moved the clock; what is refused is not kept either.
func TestKept(t *testing.T) {
	t.Parallel()
	const a, b, c = `{"keys":[],"n":"a"}`, `{"keys":[],"n":"b"}`, `{"keys":[],"n":"c"}`
	r := New()
	hold := func(code, want api.Errno, kept ...string) {
		t.Helper()
		if code != want || texts(r) != strings.Join(kept, " ") {
			t.Fatalf("%d, want %d; kept are %s, want %s", int(code), int(want), texts(r), kept)
		}
	}
	hold(r.Rotate(a, 0, 0), api.OK, a)
	hold(r.Rotate(b, 10, 10), api.OK, b, a)
	hold(r.Rotate(c, 9, 10), api.ErrBack, b, a)
	hold(r.Rotate(c, 30, -1), api.ErrPolicy, b, a)
	hold(r.Rotate("{}", 30, 0), api.ErrMember, b, a)
	r.Versions(30)
	hold(api.OK, api.OK, b, a)
	_, _, code := r.Verify("", api.Policy{}, 19)
	hold(code, api.ErrDots, b, a)
	_, _, code = r.Verify("", api.Policy{}, 9)
	hold(code, api.ErrBack, b, a)
	_, _, code = r.Verify("", api.Policy{}, 20)
	hold(code, api.ErrDots, b)
	hold(r.Rotate(c, 20, 10), api.OK, c, b)
	hold(r.Drop(1), api.ErrVersion, c, b)
	hold(r.Drop(2), api.OK, c)
	hold(r.Rotate(a, 20, 10), api.OK, a, c)
	hold(r.Rotate(b, 20, 0), api.OK, b, c)
	hold(r.Drop(5), api.OK, c)
	hold(r.Rotate(a, 30, 10), api.OK, a)
	for range 7 {
		r.Rotate(b, 30, 10)
	}
	hold(r.Rotate(c, 39, 10), api.ErrFull, b, b, b, b, b, b, b, a)
	hold(r.Rotate(c, 40, 10), api.OK, c, b)
}
