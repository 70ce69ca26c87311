package header_test

import (
	"bytes"
	stdjson "encoding/json"
	"math/rand"
	"testing"

	"signet/api"
	"signet/header"
)

// decoded: the members of a header's text, as Go's own library reads them.
func decoded(t *testing.T, doc string) map[string]any {
	t.Helper()
	var out map[string]any
	if err := stdjson.Unmarshal([]byte(doc), &out); err != nil {
		t.Fatalf("%.300q: %v", doc, err)
	}
	return out
}

// holdSaid: just the header's members, as the library reads them.
func holdSaid(t *testing.T, doc string, h api.Header) {
	t.Helper()
	want := map[string]any{"alg": nameOf(h.Alg), "kid": h.Kid}
	if h.HasTyp {
		want["typ"] = h.Typ
	}
	said := decoded(t, doc)
	if len(said) != len(want) {
		t.Fatalf("17.5: %q has %d members", doc, len(said))
	}
	for name, value := range want {
		if said[name] != value {
			t.Fatalf("17.5: %s of %q is %q, want %q", name, doc, said[name], value)
		}
	}
}

func TestAgainstLibrary(t *testing.T) {
	t.Parallel()
	r := rand.New(rand.NewSource(4))
	for range 10000 {
		h := drawnHeader(r)
		doc := text(r, membersOf(r, nameOf(h.Alg), h)...)
		got, code := header.Parse(doc)
		if code != api.OK {
			t.Fatalf("17.1: Parse(%q) = %d", doc, int(code))
		}
		holdSaid(t, doc, got)
		shortest, code := header.Print(h)
		if code != api.OK {
			t.Fatalf("17.3: Print(%s) = %d", short(h), int(code))
		}
		holdSaid(t, shortest, h)
		var compact bytes.Buffer
		if err := stdjson.Compact(&compact, []byte(shortest)); err != nil || compact.String() != shortest {
			t.Fatalf("17.3: %q is not compact: %q, %v", shortest, compact.String(), err)
		}
	}
}

// What the library writes is read.
func TestLibraryWrites(t *testing.T) {
	t.Parallel()
	r := rand.New(rand.NewSource(5))
	type written struct {
		Typ *string `json:"typ,omitempty"`
		Kid string  `json:"kid"`
		Alg string  `json:"alg"`
	}
	for range 10000 {
		h := drawnHeader(r)
		w := written{Kid: h.Kid, Alg: nameOf(h.Alg)}
		if h.HasTyp {
			w.Typ = &h.Typ
		}
		doc, err := stdjson.MarshalIndent(w, " ", "\t")
		if err != nil {
			t.Fatal(err)
		}
		mustRead(t, string(doc), h)
	}
}

// RFC 7515's headers: A.1 to A.4 have no kid, appendix E has a crit; with a kid, they are headers.
func TestRfc7515(t *testing.T) {
	t.Parallel()
	mustParse(t, api.ErrHeader, "{\"typ\":\"JWT\",\r\n \"alg\":\"HS256\"}")
	mustRead(t, "{\"typ\":\"JWT\",\r\n \"alg\":\"HS256\",\r\n \"kid\":\"2010-12-29\"}", api.Header{Alg: api.HS256, Kid: "2010-12-29", Typ: "JWT", HasTyp: true})
	mustParse(t, api.ErrHeader, `{"alg":"RS256"}`)
	mustParse(t, api.ErrHeader, `{"alg":"ES256"}`)
	mustParse(t, api.ErrHeader, `{"alg":"ES512"}`)
	mustParse(t, api.ErrHeader, `{"alg":"none"}`)
	mustParse(t, api.ErrHeader, "{\"alg\":\"none\",\r\n \"crit\":[\"http://example.com/UNDEFINED\"],\r\n \"http://example.com/UNDEFINED\":true\r\n}")
	mustRead(t, `{"alg":"EdDSA","kid":"x"}`, api.Header{Alg: api.EdDSA, Kid: "x"})
}
