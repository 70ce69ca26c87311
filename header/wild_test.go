package header_test

import (
	"math/rand"
	"slices"
	"strings"
	"testing"

	"signet/api"
)

var wildTexts = []string{"", "k", "JWT", "jwt", "HS256", "hs256", "none", "ES384", "EdDSA", "\xff", "\xed\xa0\x80", "é", "\x00", `"`, `\`, "alg"}

// wildBytes: any bytes, most often no UTF-8.
func wildBytes(r *rand.Rand) string {
	b := make([]byte, r.Intn(5))
	r.Read(b)
	return string(b)
}

func wildText(r *rand.Rand) string {
	if r.Intn(3) == 0 {
		return wildBytes(r)
	}
	return pick(r, wildTexts)
}

func wildHeader(r *rand.Rand) api.Header {
	return api.Header{Alg: pick(r, algs), Kid: wildText(r), Typ: wildText(r), HasTyp: r.Intn(2) == 0}
}

func wildPolicy(r *rand.Rand) api.Policy {
	p := api.Policy{HasTyp: r.Intn(2) == 0, Typ: wildText(r), Iss: wildText(r), HasIss: r.Intn(2) == 0, Aud: wildText(r), HasAud: r.Intn(2) == 0, Leeway: r.Int63() - r.Int63()}
	for range r.Intn(6) {
		p.Algs = append(p.Algs, pick(r, slices.Concat(names, wildTexts)))
		p.Need = append(p.Need, wildText(r))
	}
	return p
}

// P1: headers and policies of any kind.
func TestWild(t *testing.T) {
	t.Parallel()
	r := rand.New(rand.NewSource(8))
	for range 40000 {
		h := wildHeader(r)
		holdPrint(t, h)
		holdAllow(t, wildPolicy(r), h)
	}
	holdPrint(t, api.Header{})
	holdAllow(t, api.Policy{}, api.Header{})
}

// Texts that are nearly headers: bytes put in, taken away and changed.
func TestWildTexts(t *testing.T) {
	t.Parallel()
	r := rand.New(rand.NewSource(9))
	for range 40000 {
		h := drawnHeader(r)
		doc := []byte(text(r, membersOf(r, nameOf(h.Alg), h)...))
		for range 1 + r.Intn(2) {
			at := r.Intn(len(doc))
			switch b := []byte(`{}[]":,\uagkt1 ` + "\xff")[r.Intn(16)]; r.Intn(3) {
			case 0:
				doc = slices.Insert(doc, at, b)
			case 1:
				doc = slices.Delete(doc, at, at+1)
			default:
				doc[at] = b
			}
		}
		holdParse(t, string(doc))
	}
}

// Every beginning and every end of a header.
func TestCut(t *testing.T) {
	t.Parallel()
	const doc = ` {"typ":"J\u0057T","alg":"PS512","kid":"é\ud83d\ude00"} `
	for i := range len(doc) + 1 {
		holdParse(t, doc[:i])
		holdParse(t, doc[i:])
		for c := range 256 {
			holdParse(t, doc[:i]+string([]byte{byte(c)})+doc[i:])
		}
	}
}

func FuzzCalls(f *testing.F) {
	r := rand.New(rand.NewSource(10))
	for range 20 {
		h := drawnHeader(r)
		f.Add(text(r, membersOf(r, nameOf(h.Alg), h)...), h.Kid, h.Typ, h.HasTyp, int(h.Alg), "HS256 ES256 none")
	}
	f.Fuzz(func(t *testing.T, doc, kid, typ string, hasTyp bool, alg int, listed string) {
		h, code := holdParse(t, doc)
		made := api.Header{Alg: api.Alg(alg), Kid: kid, Typ: typ, HasTyp: hasTyp}
		holdPrint(t, made)
		for _, p := range []api.Policy{{Algs: strings.Split(listed, " ")}, {Algs: names, HasTyp: true, Typ: typ}, {Algs: []string{kid, doc}, HasTyp: hasTyp, Typ: h.Typ}} {
			holdAllow(t, p, made)
			if code == api.OK {
				holdAllow(t, p, h)
			}
		}
	})
}
