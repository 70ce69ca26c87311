package claims_test

import (
	"bytes"
	stdjson "encoding/json"
	"math/rand"
	"reflect"
	"testing"

	"signet/api"
	"signet/claims"
)

// decoded: the members of a payload, as Go's own library reads them.
func decoded(t *testing.T, payload string) map[string]any {
	t.Helper()
	d := stdjson.NewDecoder(bytes.NewReader([]byte(payload)))
	d.UseNumber()
	var out map[string]any
	if err := d.Decode(&out); err != nil {
		t.Fatalf("%.300q: %v", payload, err)
	}
	return out
}

// holdLibrary: each field is what the library reads of its name.
func holdLibrary(t *testing.T, payload string, c api.Claims) {
	t.Helper()
	members := decoded(t, payload)
	for name, f := range map[string]struct {
		text string
		has  bool
	}{"iss": {c.Iss, c.HasIss}, "sub": {c.Sub, c.HasSub}, "jti": {c.Jti, c.HasJti}} {
		value, has := members[name]
		if has != f.has || has && value != f.text || !has && f.text != "" {
			t.Fatalf("19.1: %s of %q is %v, and %q is answered", name, payload, value, f.text)
		}
	}
	for name, m := range map[string]api.Time{"exp": c.Exp, "nbf": c.Nbf, "iat": c.Iat} {
		value, has := members[name].(stdjson.Number)
		n, err := value.Int64()
		if has != m.Has || has && (err != nil || n != m.At) || !has && m.At != 0 {
			t.Fatalf("19.1: %s of %q is %v, and %+v is answered", name, payload, value, m)
		}
	}
	var want []any
	switch aud := members["aud"].(type) {
	case string:
		want = []any{aud}
	case []any:
		want = aud
	}
	var got []any
	for _, a := range c.Aud {
		got = append(got, a)
	}
	if _, has := members["aud"]; has != c.HasAud || len(got) != len(want) || len(got) > 0 && !reflect.DeepEqual(got, want) {
		t.Fatalf("19.1: aud of %q is %v, and %q is answered", payload, want, c.Aud)
	}
	if len(members) != c.Value[0].Kids {
		t.Fatalf("19.1: %q has %d members, and %d are answered", payload, len(members), c.Value[0].Kids)
	}
}

func TestAgainstLibrary(t *testing.T) {
	t.Parallel()
	r := rand.New(rand.NewSource(6))
	for range 10000 {
		payload := text(r, append(membersOf(r, drawnClaims(r)), others(r)...)...)
		c, code := claims.Parse(payload)
		if code != api.OK {
			t.Fatalf("19.1: Parse(%q) = %d", payload, int(code))
		}
		holdLibrary(t, payload, c)
	}
}

// What the library writes is read.
func TestLibraryWrites(t *testing.T) {
	t.Parallel()
	r := rand.New(rand.NewSource(7))
	type written struct {
		Jti  *string `json:"jti,omitempty"`
		Iss  *string `json:"iss,omitempty"`
		Sub  *string `json:"sub,omitempty"`
		Aud  any     `json:"aud,omitempty"`
		Iat  *int64  `json:"iat,omitempty"`
		Nbf  *int64  `json:"nbf,omitempty"`
		Exp  *int64  `json:"exp,omitempty"`
		More []any   `json:"more"`
	}
	for range 10000 {
		c := drawnClaims(r)
		w := written{More: []any{1.5, nil, "iss"}}
		for _, f := range []struct {
			to   **string
			text *string
			has  bool
		}{{&w.Iss, &c.Iss, c.HasIss}, {&w.Sub, &c.Sub, c.HasSub}, {&w.Jti, &c.Jti, c.HasJti}} {
			if f.has {
				*f.to = f.text
			}
		}
		for _, f := range []struct {
			to   **int64
			from *api.Time
		}{{&w.Exp, &c.Exp}, {&w.Nbf, &c.Nbf}, {&w.Iat, &c.Iat}} {
			if f.from.Has {
				*f.to = &f.from.At
			}
		}
		if len(c.Aud) == 1 {
			w.Aud = c.Aud[0]
		} else if c.HasAud {
			w.Aud = append([]string{}, c.Aud...)
		}
		payload, err := stdjson.MarshalIndent(w, " ", "\t")
		if err != nil {
			t.Fatal(err)
		}
		mustSay(t, string(payload), c)
	}
}

// RFC 7519's examples: sections 3.1 and 4.1.3's two forms of an audience.
func TestRfc7519(t *testing.T) {
	t.Parallel()
	const payload = "{\"iss\":\"joe\",\r\n \"exp\":1300819380,\r\n \"http://example.com/is_root\":true}"
	mustSay(t, payload, api.Claims{Iss: "joe", HasIss: true, Exp: at(1300819380)})
	c := parsed(t, payload)
	mustClock(t, api.OK, c, 0, 1300819379)
	mustClock(t, api.ErrExpired, c, 0, 1300819380)
	mustClock(t, api.ErrExpired, c, 600, 1300819980)
	mustCheck(t, api.OK, c, api.Policy{HasIss: true, Iss: "joe", Need: []string{"http://example.com/is_root"}})
	mustSay(t, `{"aud":"https://a.example"}`, api.Claims{Aud: []string{"https://a.example"}, HasAud: true})
	mustSay(t, `{"aud":["https://a.example"]}`, api.Claims{Aud: []string{"https://a.example"}, HasAud: true})
}
