package claims_test

import (
	"math/rand"
	"slices"
	"strings"
	"testing"

	"signet/api"
	"signet/claims"
	"signet/json"
)

var wildTexts = []string{"", "a", "iss", "exp", "joe", "\xff", "\xed\xa0\x80", "é", "\x00", `"`, `\`, "1", "1.0", "-0"}

func wildText(r *rand.Rand) string {
	if r.Intn(3) == 0 {
		b := make([]byte, r.Intn(5))
		r.Read(b)
		return string(b)
	}
	return pick(r, wildTexts)
}

// wildValue: a payload's, one with another node in it, or nodes of any kind: most often not well shaped.
func wildValue(r *rand.Rand) []api.Node {
	if r.Intn(2) == 0 {
		v, _, _ := json.Parse(text(r, append(membersOf(r, drawnClaims(r)), others(r)...)...))
		if more := wildNodes(r); len(more) > 0 && r.Intn(2) == 0 {
			v[r.Intn(len(v))] = more[0]
		}
		return v
	}
	return wildNodes(r)
}

func wildNodes(r *rand.Rand) []api.Node {
	var v []api.Node
	for range r.Intn(7) {
		v = append(v, api.Node{Kind: api.Kind(r.Intn(9)), Key: wildText(r), Text: wildText(r), Whole: r.Intn(2) == 0, Int: drawnTime(r), Kids: pick(r, []int{0, 0, 1, 2, 3, -1, -9, 1 << 40, high, low})})
	}
	if len(v) > 0 && r.Intn(2) == 0 {
		v[0].Kind, v[0].Kids = api.Object, len(v)-1
	}
	return v
}

func wildClaims(r *rand.Rand) api.Claims {
	c := drawnClaims(r)
	c.Value, c.Iss, c.Aud = wildValue(r), wildText(r), append(c.Aud, wildText(r))
	return c
}

func wildPolicy(r *rand.Rand) api.Policy {
	p := api.Policy{HasIss: r.Intn(2) == 0, Iss: wildText(r), HasAud: r.Intn(2) == 0, Aud: wildText(r), Leeway: drawnTime(r)}
	for range r.Intn(4) {
		p.Need = append(p.Need, wildText(r))
	}
	return p
}

// P1 and P3: claims and policies of any kind; of a value that is well shaped, the chapter's words too.
func TestWild(t *testing.T) {
	t.Parallel()
	r := rand.New(rand.NewSource(10))
	shaped := 0
	for range 40000 {
		c, p := wildClaims(r), wildPolicy(r)
		if json.Shaped(c.Value) {
			shaped++
			holdCheck(t, c, p)
		}
		first, second := claims.Check(c, p), claims.Check(c, p)
		if first != second || !slices.Contains([]api.Errno{api.OK, api.ErrMissing, api.ErrIss, api.ErrAud}, first) {
			t.Fatalf("P3: Check(%s, %s) = %d, and then %d", short(c), short(p), int(first), int(second))
		}
		holdOpen(t, c, p.Leeway)
		holdClock(t, c, drawnTime(r)%700, drawnTime(r))
	}
	if shaped < 1000 {
		t.Fatalf("only %d values were well shaped", shaped)
	}
	claims.Check(api.Claims{}, api.Policy{})
	claims.Check(api.Claims{}, api.Policy{Need: []string{""}})
	holdOpen(t, api.Claims{}, 0)
}

// Texts that are nearly payloads: bytes put in, taken away and changed.
func TestWildPayloads(t *testing.T) {
	t.Parallel()
	r := rand.New(rand.NewSource(11))
	for range 40000 {
		doc := []byte(text(r, append(membersOf(r, drawnClaims(r)), others(r)...)...))
		for range 1 + r.Intn(2) {
			at := r.Intn(len(doc))
			switch b := []byte(`{}[]":,\uaeisx01.- ` + "\xff")[r.Intn(20)]; r.Intn(3) {
			case 0:
				doc = slices.Insert(doc, at, b)
			case 1:
				doc = append(slices.Delete(doc, at, at+1), ' ')
			default:
				doc[at] = b
			}
		}
		holdParse(t, string(doc))
	}
}

// Every beginning and every end of a payload, and every byte at every place.
func TestCut(t *testing.T) {
	t.Parallel()
	const doc = ` {"iss":"é","aud":["x","\ud83d\ude00"],"exp":-10,"x":{"sub":1}} `
	for i := range len(doc) + 1 {
		holdParse(t, doc[:i])
		holdParse(t, doc[i:])
		for c := range 256 {
			holdParse(t, doc[:i]+string([]byte{byte(c)})+doc[i:])
		}
	}
}

func FuzzCalls(f *testing.F) {
	r := rand.New(rand.NewSource(12))
	for range 20 {
		c := drawnClaims(r)
		f.Add(text(r, append(membersOf(r, c), others(r)...)...), c.Iss, strings.Join(c.Aud, " "), "iss exp", r.Intn(4), int64(r.Intn(602)), drawnTime(r))
	}
	f.Fuzz(func(t *testing.T, payload, iss, aud, need string, mask int, leeway, now int64) {
		c, code := holdParse(t, payload)
		if code != api.OK {
			c = api.Claims{Value: []api.Node{{Kind: api.Object}}, Iss: payload, HasIss: true, Aud: strings.Split(payload, ","), HasAud: mask&4 != 0, Exp: at(leeway), Nbf: api.Time{Has: mask&8 != 0, At: now}}
		}
		p := api.Policy{Iss: iss, HasIss: mask&1 != 0, Aud: aud, HasAud: mask&2 != 0, Need: strings.Fields(need)}
		holdCheck(t, c, p)
		p.Iss, p.Aud = c.Iss, strings.Join(c.Aud[:min(1, len(c.Aud))], "")
		holdCheck(t, c, p)
		for _, l := range []int64{leeway, leeway % 601, 0, 600} {
			holdOpen(t, c, l)
			holdClock(t, c, l, now)
		}
	})
}
