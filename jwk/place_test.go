package jwk_test

import (
	"math"
	"slices"
	"strconv"
	"strings"
	"testing"

	"signet/api"
	"signet/json"
	"signet/jwk"
)

// everywhere: what Read answers at every place of a value, and beside it.
func everywhere(t *testing.T, v []api.Node) map[int]api.Key {
	t.Helper()
	found := map[int]api.Key{}
	for _, at := range []int{math.MinInt, -1 << 32, math.MaxInt, math.MaxInt - 1, 1 << 32} {
		holdValue(t, v, at)
	}
	for at := -3; at < len(v)+3; at++ {
		holdValue(t, v, at)
		if k, code := jwk.Read(v, at); code == api.OK {
			found[at] = k
		}
	}
	return found
}

// The object at the place alone counts: not those around it, in it, ahead of it or behind it.
func TestPlaces(t *testing.T) {
	t.Parallel()
	keys := one()
	var texts []string
	for _, k := range keys {
		texts = append(texts, joined(append(rows(k), row{"use", `["sig"]`})))
	}
	all := strings.Join(texts, ",")
	for _, form := range []string{`[%]`, `{"kty":"RSA","d":1,"keys":[%]}`, `[{"kty":"oct"},[%],{"d":1}]`, `{"kty":"OKP","crv":"Ed25519","x":[%],"d":0}`, `[[[["d",%]]]]`} {
		v := value(t, strings.Replace(form, "%", all, 1))
		found := everywhere(t, v)
		if len(found) != len(keys) {
			t.Fatalf("15.1: %s: %d keys found of %d", form, len(found), len(keys))
		}
		for at, k := range found {
			if v[at].Kind != api.Object || !slices.ContainsFunc(keys, func(o api.Key) bool { return same(o, k) }) {
				t.Fatalf("15.1: %s: at %d: %s", form, at, told(k))
			}
		}
	}
	for i, k := range keys {
		for _, inner := range keys {
			deep := value(t, joined(append([]row{{"a", joined(append([]row{{"d", "1"}}, rows(inner)...))}}, rows(k)...)))
			if got, code := jwk.Read(deep, 0); code != api.OK || !same(got, k) {
				t.Fatalf("15.1: what stands in another member counts: %d: %s, %d", i, told(got), int(code))
			}
			everywhere(t, deep)
		}
	}
}

// Values that are no object, and objects without a type.
func TestNoObjects(t *testing.T) {
	t.Parallel()
	for _, text := range []string{`null`, `false`, `true`, `0`, `1e400`, `""`, `"kty"`, `"oct"`, `[]`, `["kty","oct"]`, `[["kty","oct"]]`, `[{"kty":"oct"}]`, `{}`, `{"":"oct"}`, `{"kty":null}`, `{"kty":false}`, `{"kty":true}`, `{"kty":0}`, `{"kty":1}`, `{"kty":[]}`, `{"kty":["oct"]}`, `{"kty":{}}`, `{"kty":{"kty":"oct"}}`, `{"KTY":"oct"}`, `{"Kty":"oct"}`, `{"kty ":"oct"}`, `{"kt":"oct"}`, `{"ktyy":"oct"}`, `{"kty\u0000":"oct"}`, `{"oct":"kty"}`, `{"a":{"kty":"oct"}}`, `{"k":"kty","d":1}`} {
		mustRead(t, "no object of a type", api.ErrMember, text)
		everywhere(t, value(t, text))
	}
}

func str(key, text string) api.Node { return api.Node{Kind: api.String, Key: key, Text: text} }

// goodNodes: an object that says a key, behind another value in a list.
func goodNodes() []api.Node {
	return []api.Node{{Kind: api.List, Kids: 2}, {Kind: api.Number, Text: "17", Whole: true, Int: 17}, {Kind: api.Object, Kids: 4}, str("kty", "oct"), str("k", strings.Repeat("A", 43)), {Kind: api.List, Key: "u", Kids: 1}, {Kind: api.Null}, {Kind: api.Object, Key: "v"}}
}

// A value that is not well shaped is ErrMember at every place, wherever it is not.
func TestShapes(t *testing.T) {
	t.Parallel()
	if found := everywhere(t, goodNodes()); len(found) != 1 || !same(found[2], octKey(make([]byte, 32))) {
		t.Fatalf("15.1: %d keys", len(found))
	}
	changes := map[string]func(v []api.Node) []api.Node{
		"a node more":            func(v []api.Node) []api.Node { return append(v, api.Node{Kind: api.Null}) },
		"a node less":            func(v []api.Node) []api.Node { return v[:len(v)-1] },
		"nothing":                func(v []api.Node) []api.Node { return nil },
		"Kids too many":          func(v []api.Node) []api.Node { v[0].Kids = 3; return v },
		"Kids too few":           func(v []api.Node) []api.Node { v[0].Kids = 1; return v },
		"Kids below 0":           func(v []api.Node) []api.Node { v[7].Kids = -1; return v },
		"Kids the greatest":      func(v []api.Node) []api.Node { v[7].Kids = math.MaxInt; return v },
		"Kids the least":         func(v []api.Node) []api.Node { v[2].Kids = math.MinInt; return v },
		"Kids of a number":       func(v []api.Node) []api.Node { v[1].Kids = 1; return v },
		"Kids of a string":       func(v []api.Node) []api.Node { v[4].Kids = 1; return v },
		"no kind":                func(v []api.Node) []api.Node { v[6].Kind = 0; return v },
		"a kind too great":       func(v []api.Node) []api.Node { v[6].Kind = 8; return v },
		"a kind below 0":         func(v []api.Node) []api.Node { v[6].Kind = -1; return v },
		"a key at the front":     func(v []api.Node) []api.Node { v[0].Key = "a"; return v },
		"a key in a list":        func(v []api.Node) []api.Node { v[1].Key = "a"; return v },
		"the object's key":       func(v []api.Node) []api.Node { v[2].Key = "a"; return v },
		"a name twice":           func(v []api.Node) []api.Node { v[5].Key = "k"; return v },
		"kty twice":              func(v []api.Node) []api.Node { v[7].Key = "kty"; return v },
		"a name without UTF-8":   func(v []api.Node) []api.Node { v[5].Key = "\xff"; return v },
		"a string without UTF-8": func(v []api.Node) []api.Node { v[6] = str("", "\xc0\x80"); return v },
		"a text of an object":    func(v []api.Node) []api.Node { v[2].Text = "a"; return v },
		"a text of null":         func(v []api.Node) []api.Node { v[6].Text = "null"; return v },
		"no number":              func(v []api.Node) []api.Node { v[1].Text = "017"; return v },
		"not Whole":              func(v []api.Node) []api.Node { v[1].Whole = false; return v },
		"another Int":            func(v []api.Node) []api.Node { v[1].Int = 18; return v },
		"Int of a string":        func(v []api.Node) []api.Node { v[4].Int = 1; return v },
		"Whole of a string":      func(v []api.Node) []api.Node { v[3].Whole = true; return v },
	}
	for what, change := range changes {
		v := change(goodNodes())
		if json.Shaped(v) {
			t.Fatalf("%s: well shaped", what)
		}
		for at := -2; at < len(v)+2; at++ {
			if k, code := jwk.Read(v, at); code != api.ErrMember || !zero(k) {
				t.Fatalf("15.1: %s: at %d: %s, %d", what, at, told(k), int(code))
			}
		}
		if v != nil {
			everywhere(t, v)
		}
	}
	// A private member that the shape forbids is no private member: the shape is asked first.
	twice := []api.Node{{Kind: api.Object, Kids: 3}, str("kty", "RSA"), str("d", ""), str("d", "")}
	if _, code := jwk.Read(twice, 0); code != api.ErrMember {
		t.Fatalf("15.1: d twice: %d", int(code))
	}
}

// The object may stand in 31 others, and no deeper.
func TestDepth(t *testing.T) {
	t.Parallel()
	k := one()[4]
	for n := range 40 {
		v := slices.Concat(slices.Repeat([]api.Node{{Kind: api.List, Kids: 1}}, n), value(t, joined(rows(k))))
		holdValue(t, v, n)
		want := api.OK
		if n >= api.MaxDepth {
			want = api.ErrMember
		}
		if _, code := jwk.Read(v, n); code != want {
			t.Fatalf("15.1: in %d lists: %d, want %d", n, int(code), int(want))
		}
	}
}

// Many members, more than any text may have: the last one counts as the first does.
func TestManyMembers(t *testing.T) {
	t.Parallel()
	for _, k := range one() {
		v := value(t, joined(rows(k)))
		n := v[0].Kids
		for i := range 200000 {
			v = append(v, str(strconv.Itoa(i), ""))
		}
		v[0].Kids = len(v) - 1
		slices.Reverse(v[1:])
		if got, code := jwk.Read(v, 0); code != api.OK || !same(got, k) {
			t.Fatalf("15.1: %d members and %d others: %s, %d", n, len(v)-1-n, told(got), int(code))
		}
	}
}
