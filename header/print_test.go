package header_test

import (
	"strings"
	"testing"

	"signet/api"
)

func TestPrint(t *testing.T) {
	t.Parallel()
	for i, name := range names {
		mustPrint(t, api.OK, `{"alg":"`+name+`","kid":""}`, api.Header{Alg: algs[i]})
		mustPrint(t, api.OK, `{"alg":"`+name+`","kid":"k","typ":"JWT"}`, api.Header{Alg: algs[i], Kid: "k", Typ: "JWT", HasTyp: true})
		mustPrint(t, api.OK, `{"alg":"`+name+`","kid":"k","typ":""}`, api.Header{Alg: algs[i], Kid: "k", HasTyp: true})
	}
	// What is no typ is not written, whatever it is.
	mustPrint(t, api.OK, `{"alg":"ES256","kid":"k"}`, api.Header{Alg: api.ES256, Kid: "k", Typ: "JWT"})
	mustPrint(t, api.OK, `{"alg":"ES256","kid":"k"}`, api.Header{Alg: api.ES256, Kid: "k", Typ: "\xff"})
	mustPrint(t, api.OK, `{"alg":"ES256","kid":"k"}`, api.Header{Alg: api.ES256, Kid: "k", Typ: strings.Repeat("t", api.MaxKeys)})
	mustPrint(t, api.OK, `{"alg":"EdDSA","kid":"\"\\/\b\f\n\r\t\u0000\u001f`+"\x7fé\U0001f600\u2028"+`"}`, api.Header{Alg: api.EdDSA, Kid: "\"\\/\b\f\n\r\t\x00\x1f\x7fé\U0001f600\u2028"})
}

// The refusals, and which of two is told.
func TestPrintRefuses(t *testing.T) {
	t.Parallel()
	bad := []string{"\xff", "k\x80", "\xc0\x80", "\xed\xa0\x80", "\xf4\x90\x80\x80", "é"[:1], strings.Repeat("k", api.MaxKeys) + "\xff"}
	large := strings.Repeat("k", api.MaxKeys)
	for _, a := range algs[len(names):] {
		for _, s := range append(bad, "", "k", large) {
			mustPrint(t, api.ErrAlg, "", api.Header{Alg: a, Kid: s})
			mustPrint(t, api.ErrAlg, "", api.Header{Alg: a, Typ: s, HasTyp: true})
		}
	}
	for _, s := range bad {
		for _, other := range append(bad, "", "k", large) {
			mustPrint(t, api.ErrHeader, "", api.Header{Alg: api.PS384, Kid: s, Typ: other})
			mustPrint(t, api.ErrHeader, "", api.Header{Alg: api.PS384, Kid: s, Typ: other, HasTyp: true})
			mustPrint(t, api.ErrHeader, "", api.Header{Alg: api.PS384, Kid: other, Typ: s, HasTyp: true})
		}
	}
}

// MaxKeys: the text's bytes count, those of escapes and of typ too.
func TestPrintLarge(t *testing.T) {
	t.Parallel()
	const two, three = len(`{"alg":"HS256","kid":""}`), len(`{"alg":"HS256","kid":"","typ":""}`)
	for past, want := range map[int]api.Errno{-1: api.OK, 0: api.OK, 1: api.ErrLarge, 2: api.ErrLarge, 1 << 20: api.ErrLarge} {
		for _, c := range []struct {
			piece string
			size  int
		}{{"k", 1}, {"\x00", 6}, {"\n", 2}, {"é", 2}, {`"`, 2}} {
			room := api.MaxKeys - two + past
			fill := strings.Repeat("k", room%c.size) + strings.Repeat(c.piece, room/c.size)
			_, code := holdPrint(t, api.Header{Alg: api.HS256, Kid: fill})
			if code != want {
				t.Errorf("17.3: kid of %q, %d past MaxKeys: %d", c.piece, past, int(code))
			}
			room = api.MaxKeys - three + past
			fill = strings.Repeat("k", room%c.size) + strings.Repeat(c.piece, room/c.size)
			for _, h := range []api.Header{{Kid: fill}, {Typ: fill}, {Kid: strings.Repeat("k", room/2), Typ: strings.Repeat("t", room-room/2)}} {
				h.Alg, h.HasTyp = api.HS256, true
				if _, code := holdPrint(t, h); code != want {
					t.Errorf("17.3: kid and typ of %q, %d past MaxKeys: %d", c.piece, past, int(code))
				}
			}
		}
	}
}
