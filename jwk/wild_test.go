package jwk_test

import (
	"math"
	"math/rand"
	"strconv"
	"strings"
	"testing"

	"signet/api"
	"signet/json"
)

var wildNames = []string{"kty", "crv", "k", "n", "e", "x", "y", "d", "p", "q", "dp", "dq", "qi", "oth", "kid", "", "\xff", "é"}

// wildTexts: what strings of keys say, right ones and wrong ones.
func wildTexts() []string {
	out := []string{"oct", "RSA", "EC", "OKP", "P-256", "P-384", "Ed25519", "P-521", "", "AA", "AQAB", "A", "=", "\xff", strings.Repeat("A", 43), strings.Repeat("A", 44)}
	for _, k := range one() {
		for _, m := range rows(k) {
			out = append(out, strings.Trim(m.says, `"`))
		}
	}
	return out
}

// drawnNode: a node of any kind, most often well shaped by itself.
func drawnNode(r *rand.Rand, texts []string) api.Node {
	switch r.Intn(12) {
	case 0:
		return api.Node{Kind: api.Kind(r.Intn(10) - 1), Key: wildNames[r.Intn(len(wildNames))], Text: texts[r.Intn(len(texts))], Whole: r.Intn(2) == 0, Int: int64(r.Intn(3)), Kids: r.Intn(5) - 1}
	case 1:
		return api.Node{Kind: api.List, Kids: []int{0, 1, 2, -1, math.MaxInt, math.MinInt}[r.Intn(6)]}
	case 2:
		return api.Node{Kind: api.Object, Key: "a", Kids: r.Intn(4)}
	case 3:
		return api.Node{Kind: api.Number, Key: wildNames[r.Intn(len(wildNames))], Text: "1", Whole: true, Int: 1}
	}
	return str(wildNames[r.Intn(len(wildNames))], texts[r.Intn(len(texts))])
}

// P1: lists of nodes of any kind, at any place.
func TestWildNodes(t *testing.T) {
	t.Parallel()
	r := rand.New(rand.NewSource(7))
	texts := wildTexts()
	for range 30000 {
		v := []api.Node{{Kind: api.Object, Kids: r.Intn(7)}}
		for range v[0].Kids + r.Intn(3)/2 {
			v = append(v, drawnNode(r, texts))
		}
		holdValue(t, v, 0)
		holdValue(t, v, r.Intn(len(v)+4)-2)
		holdValue(t, v[r.Intn(len(v)):], 0)
	}
	holdValue(t, nil, 0)
	holdValue(t, []api.Node{}, -1)
	holdValue(t, []api.Node{{}}, 0)
}

// Objects of members that are drawn, no name twice: most of them well shaped.
func TestWildObjects(t *testing.T) {
	t.Parallel()
	r := rand.New(rand.NewSource(8))
	keys, texts := one(), wildTexts()
	for range 12000 {
		members := rows(keys[r.Intn(len(keys))])
		for range r.Intn(4) {
			name := wildNames[r.Intn(len(wildNames)-2)]
			says := someValues[r.Intn(len(someValues))]
			if r.Intn(2) == 0 {
				says = strconv.Quote(strings.ToValidUTF8(texts[r.Intn(len(texts))], "?"))
			}
			if r.Intn(6) == 0 {
				says = ""
			}
			members = with(members, name, says)
		}
		mustHold(t, joined(members))
	}
}

// Keys of which each part is that of one of two right keys.
func TestMixedKeys(t *testing.T) {
	t.Parallel()
	keys := one()
	for _, a := range keys {
		for _, b := range keys {
			for mask := range 128 {
				k := a
				for i, take := range []func(){func() { k.Kty = b.Kty }, func() { k.Crv = b.Crv }, func() { k.Secret = b.Secret }, func() { k.N = b.N }, func() { k.E = b.E }, func() { k.X = b.X }, func() { k.Y = b.Y }} {
					if mask>>i&1 == 1 {
						take()
					}
				}
				holdKey(t, k)
			}
		}
	}
}

func FuzzCalls(f *testing.F) {
	keys := one()
	for _, k := range keys {
		text, _ := wantText(k)
		f.Add(text, 0, text, "d", uint8(k.Kty), uint8(k.Crv), k.X)
		f.Add(joined(append(rows(k), row{"d", "1"})), 0, "["+text+"]", "kid", uint8(k.Kty), uint8(k.Crv), k.Secret)
	}
	f.Add(`{"kty":"OKP","crv":"Ed25519","x":"AA="}`, 1, `{}`, "", uint8(0), uint8(9), []byte{})
	f.Fuzz(func(t *testing.T, text string, at int, other, name string, kty, crv uint8, b []byte) {
		for _, s := range []string{text, other, `{"kty":"oct","k":` + text + `}`, `[` + text + `,` + other + `]`} {
			v, code, _ := json.Parse(s)
			if code == api.OK {
				holdValue(t, v, 0)
				holdValue(t, v, at)
			}
		}
		for _, k := range keys {
			v := value(t, joined(rows(k)))
			v = append(v, str(name, text))
			v[0].Kids++
			holdValue(t, v, 0)
			if at >= 0 && at < len(v) {
				v[at].Text, v[at].Key = other, name
				holdValue(t, v, 0)
				v[at].Kind, v[at].Kids = api.Kind(kty), int(crv)-1
				holdValue(t, v, 0)
			}
		}
		half := len(b) / 2
		holdKey(t, api.Key{Kty: api.Kty(kty), Crv: api.Crv(crv), X: b})
		holdKey(t, api.Key{Kty: api.Kty(kty), Crv: api.Crv(crv), X: b[:half], Y: b[half:]})
		holdKey(t, api.Key{Kty: api.Kty(kty), Crv: api.Crv(crv), N: b[:half], E: b[half:]})
		holdKey(t, octKey(b))
	})
}
