package jwk_test

import (
	"bytes"
	"crypto/ed25519"
	"crypto/elliptic"
	"fmt"
	"maps"
	"math/big"
	"math/rand"
	"slices"
	"strings"
	"testing"

	"signet/api"
	"signet/jwk"
)

func drawnBytes(r *rand.Rand, n int) []byte {
	b := make([]byte, n)
	r.Read(b)
	return b
}

// drawnOdd: an odd number of just so many binary digits, as bytes.
func drawnOdd(r *rand.Rand, digits int) []byte {
	x := new(big.Int).Rand(r, new(big.Int).Lsh(big.NewInt(1), uint(digits)))
	x.SetBit(x, digits-1, 1)
	return x.SetBit(x, 0, 1).Bytes()
}

func octKey(secret []byte) api.Key { return api.Key{Kty: api.Oct, Secret: secret} }

func rsaKey(n, e []byte) api.Key { return api.Key{Kty: api.RSA, N: n, E: e} }

func drawnRSA(r *rand.Rand, digits, ofE int) api.Key {
	return rsaKey(drawnOdd(r, digits), drawnOdd(r, ofE))
}

func okpKey(x []byte) api.Key { return api.Key{Kty: api.OKP, Crv: api.Ed25519, X: x} }

func drawnOKP(r *rand.Rand) api.Key {
	return okpKey(ed25519.NewKeyFromSeed(drawnBytes(r, 32)).Public().(ed25519.PublicKey))
}

// ecKey: the base point so many times, as the library reckons it.
func ecKey(c api.Crv, times []byte) api.Key {
	g := elliptic.P256()
	if c == api.P384 {
		g = elliptic.P384()
	}
	x, y := g.ScalarBaseMult(times)
	size := g.Params().BitSize / 8
	return api.Key{Kty: api.EC, Crv: c, X: x.FillBytes(make([]byte, size)), Y: y.FillBytes(make([]byte, size))}
}

func drawnEC(r *rand.Rand, c api.Crv) api.Key { return ecKey(c, drawnBytes(r, 20)) }

// zeroAhead: keys of which a coordinate begins with a byte 0, each in its turn.
func zeroAhead(c api.Crv) []api.Key {
	var out []api.Key
	for _, first := range []func(k api.Key) byte{func(k api.Key) byte { return k.X[0] }, func(k api.Key) byte { return k.Y[0] }} {
		for i := 1; ; i++ {
			if k := ecKey(c, []byte{byte(i >> 8), byte(i)}); first(k) == 0 {
				out = append(out, k)
				break
			}
		}
	}
	return out
}

// some: right keys of every type and curve, a few of each.
func some() []api.Key {
	r := rand.New(rand.NewSource(15))
	out := []api.Key{octKey(make([]byte, 32)), octKey(drawnBytes(r, 33)), octKey(drawnBytes(r, 34)), octKey(drawnBytes(r, 4096)), octKey(bytes.Repeat([]byte{0xff}, 64))}
	for i, digits := range []int{2048, 2049, 3071, 4096} {
		out = append(out, drawnRSA(r, digits, 2+10*i))
	}
	for _, c := range []api.Crv{api.P256, api.P384} {
		out = append(out, ecKey(c, []byte{1}), drawnEC(r, c))
		out = append(out, zeroAhead(c)...)
	}
	// The last two are points of small order: 0 as y, and 1.
	return append(out, drawnOKP(r), drawnOKP(r), okpKey(make([]byte, 32)), okpKey(append([]byte{1}, make([]byte, 31)...)))
}

// one: a right key of each type and curve.
func one() []api.Key {
	return []api.Key{octKey(make([]byte, 32)), drawnRSA(rand.New(rand.NewSource(16)), 2048, 17), ecKey(api.P256, []byte{2}), ecKey(api.P384, []byte{3}), okpKey(make([]byte, 32))}
}

// Drawn keys of every type, there and back.
func TestDrawnKeys(t *testing.T) {
	t.Parallel()
	r := rand.New(rand.NewSource(1))
	keys := some()
	for range 150 {
		keys = append(keys, drawnEC(r, api.P256), drawnEC(r, api.P384), drawnOKP(r), drawnRSA(r, 2048+r.Intn(2049), 2+r.Intn(31)), octKey(drawnBytes(r, 32+r.Intn(4065))))
	}
	for _, k := range keys {
		if _, code := jwk.Text(k); code != api.OK {
			t.Fatalf("15.2: Text(%s): %d", told(k), int(code))
		}
		holdKey(t, k)
	}
}

// Two right keys have one Text just if they are the same.
func TestOneText(t *testing.T) {
	t.Parallel()
	x := ecKey(api.P256, []byte{1}).X
	keys := append(some(), octKey(x), octKey(make([]byte, 33)), octKey(make([]byte, 34)), okpKey(append(make([]byte, 31), 0x80)))
	for i, secret := 0, make([]byte, 32); i < 256; i++ {
		b := slices.Clone(secret)
		b[i/8] |= 1 << (i % 8)
		keys = append(keys, octKey(b))
	}
	texts, prints := map[string]int{}, map[string]int{}
	for i, k := range keys {
		text, code := jwk.Text(k)
		sum, again := jwk.Thumbprint(k)
		if code != api.OK || again != api.OK {
			t.Fatalf("15.2: %s: %d, %d", told(k), int(code), int(again))
		}
		texts[text], prints[sum] = i, i
		twin, _ := jwk.Text(api.Key{Kty: k.Kty, Crv: k.Crv, Secret: slices.Clone(k.Secret), N: slices.Clone(k.N), E: slices.Clone(k.E), X: slices.Clone(k.X), Y: slices.Clone(k.Y)})
		if twin != text {
			t.Fatalf("15.4: two texts of one key: %q, %q", text, twin)
		}
	}
	if len(texts) != len(keys) || len(prints) != len(keys) {
		t.Fatalf("15.4: %d keys, %d texts, %d thumbprints", len(keys), len(texts), len(prints))
	}
}

// spelled: a string of JSON in one of its spellings.
func spelled(r *rand.Rand, s string) string {
	var b strings.Builder
	b.WriteByte('"')
	for i := range len(s) {
		switch c := s[i]; {
		case c < 0x20 || c < 0x80 && r.Intn(3) == 0:
			fmt.Fprintf(&b, []string{`\u%04x`, `\u%04X`}[r.Intn(2)], c)
		case c == '/' && r.Intn(2) == 0:
			b.WriteString(`\/`)
		case c == '"' || c == '\\':
			b.WriteByte('\\')
			fallthrough
		default:
			b.WriteByte(c)
		}
	}
	b.WriteByte('"')
	return b.String()
}

func blanks(r *rand.Rand) string {
	if r.Intn(2) == 0 {
		return ""
	}
	return []string{" ", "\t", "\n", "\r", " \r\n\t "}[r.Intn(5)]
}

// row: a member as it stands in a text, its name in quotes, and its value.
type row struct{ name, says string }

// rows: the members that a key needs, by Text's words.
func rows(k api.Key) []row {
	quoted := func(b []byte) string { return `"` + signs(b) + `"` }
	switch crv := map[api.Crv]string{api.P256: `"P-256"`, api.P384: `"P-384"`}[k.Crv]; k.Kty {
	case api.Oct:
		return []row{{"kty", `"oct"`}, {"k", quoted(k.Secret)}}
	case api.RSA:
		return []row{{"kty", `"RSA"`}, {"n", quoted(k.N)}, {"e", quoted(k.E)}}
	case api.EC:
		return []row{{"kty", `"EC"`}, {"crv", crv}, {"x", quoted(k.X)}, {"y", quoted(k.Y)}}
	}
	return []row{{"kty", `"OKP"`}, {"crv", `"Ed25519"`}, {"x", quoted(k.X)}}
}

// joined: the object of these members.
func joined(members []row) string {
	var parts []string
	for _, m := range members {
		parts = append(parts, `"`+m.name+`":`+m.says)
	}
	return "{" + strings.Join(parts, ",") + "}"
}

var someValues = []string{`null`, `false`, `true`, `0`, `-0`, `1e9`, `""`, `"AA"`, `"AQAB"`, `"RSA"`, `"P-256"`, `[]`, `{}`, `["verify","sign"]`, `{"kty":"oct","d":1,"k":"AA","x":null}`, `[{"kty":1},[["d"]]]`}

// others: names of members that do not count beside that key.
func others(k api.Key) []string {
	names := []string{"kid", "use", "alg", "key_ops", "x5c", "x5t", "x5t#S256", "x5u", "", "KTY", "Kty", "kty ", " kty", "D", "P", "dP", "DQ", "d ", "\u0000", "dpq", "ot", "othe", "é", "Crv", "nn", "N", "E", "X", "K"}
	have := map[string]bool{}
	for _, m := range rows(k) {
		have[m.name] = true
	}
	for _, name := range []string{"k", "n", "e", "crv", "x", "y"} {
		if !have[name] {
			names = append(names, name)
		}
	}
	if k.Kty == api.Oct {
		names = append(names, privateNames...)
	}
	return names
}

// respelled: an object that says the same key, with other members, in another order, in other spellings.
func respelled(r *rand.Rand, k api.Key) string {
	members := map[string]string{}
	names := others(k)
	for range r.Intn(8) {
		members[names[r.Intn(len(names))]] = someValues[r.Intn(len(someValues))]
	}
	for _, m := range rows(k) {
		members[m.name] = spelled(r, strings.Trim(m.says, `"`))
	}
	order := slices.Sorted(maps.Keys(members))
	r.Shuffle(len(order), func(i, j int) { order[i], order[j] = order[j], order[i] })
	var parts []string
	for _, name := range order {
		parts = append(parts, blanks(r)+spelled(r, name)+blanks(r)+":"+blanks(r)+members[name]+blanks(r))
	}
	return blanks(r) + "{" + strings.Join(parts, ",") + "}" + blanks(r)
}

func TestRequiredAlone(t *testing.T) {
	t.Parallel()
	r := rand.New(rand.NewSource(3))
	for _, k := range some() {
		text, _ := jwk.Text(k)
		mustSay(t, "15.4", k, text)
		mustSay(t, "15.1", k, joined(rows(k)))
		want, _ := jwk.Thumbprint(k)
		for range 60 {
			text := respelled(r, k)
			mustSay(t, "15.5", k, text)
			back, _ := jwk.Read(value(t, text), 0)
			if got, code := jwk.Thumbprint(back); code != api.OK || got != want {
				t.Fatalf("15.5: Thumbprint of %.900s = %s, %d, want %s", text, got, int(code), want)
			}
		}
	}
}

// Every other name with every value, ahead and behind.
func TestOtherMembers(t *testing.T) {
	t.Parallel()
	for _, k := range one() {
		for _, name := range others(k) {
			r := rand.New(rand.NewSource(4))
			quoted := spelled(r, name)
			for _, says := range someValues {
				more := row{strings.Trim(quoted, `"`), says}
				mustSay(t, "15.5", k, joined(append(rows(k), more)))
				mustSay(t, "15.5", k, joined(append([]row{more}, rows(k)...)))
			}
		}
	}
}
