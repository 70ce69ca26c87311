package keyset_test

import (
	"math"
	"math/rand"
	"slices"
	"testing"

	"signet/api"
	"signet/json"
	"signet/keyset"
)

var wildTexts = []string{"crv", "kty", "kid", "P-256", "P-384", "Ed25519", "", "sig", "verify", "HS256", "ES256", "EdDSA", "\xff", "é", "7"}

// drawnNode: a node of any kind, most often one that says a curve.
func drawnNode(r *rand.Rand) api.Node {
	switch r.Intn(6) {
	case 0:
		return api.Node{Kind: api.Kind(r.Intn(10) - 1), Key: pick(r, wildTexts), Text: pick(r, wildTexts), Whole: r.Intn(2) == 0, Int: int64(r.Intn(3)), Kids: r.Intn(5) - 1}
	case 1:
		return api.Node{Kind: pick(r, []api.Kind{api.List, api.Object}), Key: pick(r, wildTexts), Kids: pick(r, []int{0, 1, 2, -1, math.MaxInt, math.MinInt, math.MaxInt32})}
	case 2:
		return api.Node{Kind: api.String, Key: pick(r, wildTexts), Text: pick(r, wildTexts)}
	}
	return api.Node{Kind: api.String, Key: "crv", Text: pick(r, wildTexts)}
}

func drawnEntry(r *rand.Rand) api.Entry {
	x := api.Entry{Kty: api.Kty(r.Intn(7) - 1), Kid: pick(r, wildTexts), HasKid: r.Intn(3) > 0, Use: pick(r, wildTexts), HasUse: r.Intn(4) == 0, Alg: pick(r, wildTexts), HasAlg: r.Intn(4) == 0, HasOps: r.Intn(4) == 0}
	for range r.Intn(4) {
		x.Ops = append(x.Ops, pick(r, wildTexts))
	}
	if r.Intn(5) > 0 {
		x.Value = []api.Node{{Kind: api.Object, Kids: r.Intn(5) - 1}}
	}
	for range r.Intn(5) {
		x.Value = append(x.Value, drawnNode(r))
	}
	return x
}

// holdWild: of a Value that is well shaped all is promised; of another that Bind ends, changes nothing, and answers alike.
func holdWild(t *testing.T, x api.Entry) {
	t.Helper()
	if json.Shaped(x.Value) {
		holdBind(t, x)
		return
	}
	was := room([]api.Entry{x})
	for _, a := range algs {
		code := keyset.Bind(x, a)
		if code != api.OK && code != api.ErrBinding || keyset.Bind(x, a) != code {
			t.Fatalf("P3: Bind(%v, %d) = %d", x, int64(a), int(code))
		}
	}
	if !slices.Equal(room([]api.Entry{x}), was) {
		t.Fatalf("P2: Bind changes %v", x)
	}
}

// P1: entries of any kind.
func TestWildEntries(t *testing.T) {
	t.Parallel()
	r := rand.New(rand.NewSource(7))
	for range 15000 {
		var l []api.Entry
		for range r.Intn(5) {
			l = append(l, drawnEntry(r))
		}
		for _, x := range l {
			holdWild(t, x)
		}
		for range 4 {
			holdFind(t, l, pick(r, wildTexts))
		}
	}
	holdWild(t, api.Entry{})
	holdWild(t, api.Entry{Kty: api.EC})
	holdWild(t, api.Entry{Kty: api.EC, Value: []api.Node{}})
	holdWild(t, api.Entry{Kty: api.OKP, Value: []api.Node{{}}})
}

// Texts that are nearly sets: bytes put in, taken away and changed.
func TestWildTexts(t *testing.T) {
	t.Parallel()
	r := rand.New(rand.NewSource(8))
	for range 15000 {
		doc := []byte(set(drawnKeys(r, 1+r.Intn(2))))
		for range 1 + r.Intn(2) {
			at := r.Intn(len(doc))
			switch b := []byte(`{}[]":,\ua1 ` + "\xff")[r.Intn(13)]; r.Intn(3) {
			case 0:
				doc = slices.Insert(doc, at, b)
			case 1:
				doc = slices.Delete(doc, at, at+1)
			default:
				doc[at] = b
			}
		}
		hold(t, string(doc))
	}
}

func FuzzCalls(f *testing.F) {
	r := rand.New(rand.NewSource(9))
	for range 20 {
		f.Add(set(drawnKeys(r, 3)), drawnKey(r, true), "a", 1, 10)
	}
	f.Fuzz(func(t *testing.T, doc, object, kid string, kids, alg int) {
		for _, text := range []string{doc, `{"keys":[` + object + `]}`, `{"keys":[{"kty":"EC","crv":` + object + `},` + object + `]}`} {
			hold(t, text)
			l, _ := keyset.Parse(text)
			holdFind(t, l, kid)
			for _, x := range l {
				x.Value[len(x.Value)/2].Kids = kids
				x.Value[0].Text = kid
				holdWild(t, x)
				keyset.Bind(x, api.Alg(alg))
			}
		}
		if name := keyset.Name(api.Alg(alg)); name != "" && keyset.Of(name) != api.Alg(alg) {
			t.Fatalf("16.1: Of(Name(%d))", alg)
		}
		if a := keyset.Of(kid); a != api.NoAlg && keyset.Name(a) != kid {
			t.Fatalf("16.1: Name(Of(%q))", kid)
		}
	})
}
