package jwk_test

import (
	"bytes"
	"fmt"
	"math/big"
	"slices"
	"strings"
	"testing"

	"signet/api"
	"signet/jwk"
)

// The modulus of RFC 7638's example key.
const rfc7638 = "0vx7agoebGcQSuuPiLJXZptN9nndrQmbXEps2aiAFbWhM78LhWx4cbbfAAtVT86zwu1RK7aPFFxuhDR1L6tSoc_BJECPebWKRXjBZCiFV4n3oknjhMstn64tZ_2W-5JsGY4Hc5n9yBXArwl93lqt7_RN5w6Cf0h4QyQ5v-65YGjQR0_FDW2QvzqY368QQMicAtaSqzs8KJZgnYb9c7d0zgdAZHzu6qMQvRL5hajrn1n91CbOpbISD08qNLyrdkt-bFTWhAI4vMQFh6WeZu0fM4lFd2NcRwr3XPksINHaQ-G_xBniIqbw0Ls1jF44-csFCur-kEgU8awapJzKnqDKgw"

// The rows of the chapter's table.
func TestExamples(t *testing.T) {
	t.Parallel()
	signs43 := strings.Repeat("A", 43)
	nothing := octKey(make([]byte, 32))
	mustSay(t, "43 signs", nothing, `{"kty":"oct","k":"`+signs43+`"}`)
	mustRead(t, "one byte", api.ErrKey, `{"kty":"oct","k":"AA"}`)
	mustSay(t, "43 signs and d", nothing, `{"kty":"oct","k":"`+signs43+`","d":1}`)
	mustRead(t, "rsa", api.ErrKty, `{"kty":"rsa"}`)
	mustRead(t, "1", api.ErrMember, `{"kty":1}`)
	mustRead(t, "a list", api.ErrMember, `[]`)
	mustRead(t, "no crv", api.ErrMember, `{"kty":"EC"}`)
	mustRead(t, "another type's crv", api.ErrKty, `{"kty":"EC","crv":"Ed25519"}`)
	mustRead(t, "d null", api.ErrSecret, `{"kty":"RSA","d":null}`)
	mustRead(t, "filled", api.ErrKey, `{"kty":"OKP","crv":"Ed25519","x":"AA="}`)
	k, code := jwk.Read(value(t, `{"kty":"RSA","n":"`+rfc7638+`","e":"AQAB","alg":"RS256","kid":"2011-04-29"}`), 0)
	if sum, again := jwk.Thumbprint(k); code != api.OK || again != api.OK || sum != "NzbLsXh8uDCcd-6MNwXF4W_7noWXFZAfHkxZsRGC9Xs" {
		t.Fatalf("15.3: RFC 7638's key: %d; %s, %d", int(code), sum, int(again))
	}
}

// with: the members, that one with another value; without it, if the value is empty.
func with(members []row, name, says string) []row {
	out := slices.DeleteFunc(slices.Clone(members), func(m row) bool { return m.name == name })
	if says != "" {
		out = append(out, row{name, says})
	}
	return out
}

// fault: a value that one member may have, and what it brings if nothing is told ahead of it.
type fault struct {
	says string
	code api.Errno
}

// faults: what may stand in a member, the right value first.
func faults(m row) []fault {
	switch m.name {
	case "kty":
		return []fault{{m.says, api.OK}, {"", api.ErrMember}, {`null`, api.ErrMember}, {`["` + strings.Trim(m.says, `"`) + `"]`, api.ErrMember}, {`"none"`, api.ErrKty}}
	case "crv":
		return []fault{{m.says, api.OK}, {"", api.ErrMember}, {`true`, api.ErrMember}, {`{}`, api.ErrMember}, {`"P-521"`, api.ErrKty}}
	}
	return []fault{{m.says, api.OK}, {"", api.ErrMember}, {`7`, api.ErrMember}, {`"A A"`, api.ErrKey}, {`"AA"`, api.ErrKey}, {`""`, api.ErrKey}}
}

// product calls once for every choice of one fault a member.
func product(members []row, chosen []row, codes []api.Errno, call func([]row, []api.Errno)) {
	if len(members) == 0 {
		call(chosen, codes)
		return
	}
	for _, f := range faults(members[0]) {
		next := slices.Clone(chosen)
		if f.says != "" {
			next = append(next, row{members[0].name, f.says})
		}
		product(members[1:], next, append(slices.Clone(codes), f.code), call)
	}
}

// firstFault: kty, then crv, then private members, then members that are not there, then bytes.
func firstFault(k api.Key, codes []api.Errno, private bool) api.Errno {
	ahead := 1
	if k.Kty == api.EC || k.Kty == api.OKP {
		ahead = 2
	}
	for _, code := range codes[:ahead] {
		if code != api.OK {
			return code
		}
	}
	if private && k.Kty != api.Oct {
		return api.ErrSecret
	}
	for _, code := range []api.Errno{api.ErrMember, api.ErrKey} {
		if slices.Contains(codes[ahead:], code) {
			return code
		}
	}
	return api.OK
}

// Every choice of faults, with a private member and without: the first of the order is told, wherever the members stand.
func TestFirstFault(t *testing.T) {
	t.Parallel()
	for _, k := range one() {
		n := 0
		product(rows(k), nil, nil, func(members []row, codes []api.Errno) {
			slices.Reverse(members)
			mustRead(t, "faults", firstFault(k, codes, false), joined(members))
			more := row{privateNames[n%7], someValues[n%len(someValues)]}
			place := n % (len(members) + 1)
			mustRead(t, "faults and a private member", firstFault(k, codes, true), joined(slices.Insert(members, place, more)))
			n++
		})
	}
}

func TestPrivate(t *testing.T) {
	t.Parallel()
	for _, k := range one() {
		want := api.ErrSecret
		if k.Kty == api.Oct {
			want = api.OK
		}
		for _, name := range privateNames {
			for _, says := range someValues {
				more := row{name, says}
				mustRead(t, "private", want, joined(append(rows(k), more)))
				mustRead(t, "private", want, joined(append([]row{more}, rows(k)...)))
			}
			mustRead(t, "private, behind an escape", want, joined(append(rows(k), row{escapedFirst(name), "1"})))
			mustSay(t, "15.1: private within another member", k, joined(append(rows(k), row{"kid", `{"` + name + `":1}`})))
		}
	}
}

// escapedFirst: a name with its first letter as an escape.
func escapedFirst(name string) string { return fmt.Sprintf(`\u%04x`, name[0]) + name[1:] }

// Types and curves that are none, and such as are another type's.
func TestNames(t *testing.T) {
	t.Parallel()
	for _, name := range []string{"", "none", "OCT", "Oct", "oct ", " oct", "octet", "oc", "rsa", "Rsa", "RSA2", "RS", "ec", "Ec", "EC2", "E", "okp", "Okp", "OK", "OKPX", `RSA\u0000`, "ＲＳＡ", "1", "2", "3", "4", "AKP", "P-256"} {
		for _, k := range one() {
			mustRead(t, "kty", api.ErrKty, joined(with(rows(k), "kty", `"`+name+`"`)))
			mustRead(t, "kty and d", api.ErrKty, joined(append(with(rows(k), "kty", `"`+name+`"`), row{"d", "1"})))
		}
		mustRead(t, "kty alone", api.ErrKty, `{"kty":"`+name+`"}`)
	}
	ours := map[string]api.Kty{"P-256": api.EC, "P-384": api.EC, "Ed25519": api.OKP}
	for _, name := range []string{"", "P-256", "P-384", "Ed25519", "p-256", "P256", "P-256 ", "P-25", "P-2566", "P-521", "P-224", "secp256k1", "secp256r1", "prime256v1", "1", "ed25519", "ED25519", "Ed448", "X25519", "X448", `P-256\u0000`, "NIST P-256"} {
		for _, k := range one() {
			text := joined(with(rows(k), "crv", `"`+name+`"`))
			switch {
			case k.Kty == api.Oct || k.Kty == api.RSA:
				mustSay(t, "15.5: crv of a type that has none", k, text)
			case ours[name] != k.Kty:
				mustRead(t, "crv", api.ErrKty, text)
				mustRead(t, "crv, and d", api.ErrKty, joined(append(with(rows(k), "crv", `"`+name+`"`), row{"d", "1"})))
				mustRead(t, "crv, nothing else", api.ErrKty, joined(with(rows(k)[:1], "crv", `"`+name+`"`)))
			case k.Crv != curves[name]:
				mustRead(t, "the other curve", api.ErrKey, text)
			default:
				mustSay(t, "15.1", k, text)
			}
		}
	}
}

// Each type's members under every other type's name.
func TestOtherTypes(t *testing.T) {
	t.Parallel()
	for _, k := range one() {
		for _, kty := range []string{"oct", "RSA", "EC", "OKP"} {
			for _, crv := range []string{"", `"P-256"`, `"P-384"`, `"Ed25519"`, `0`} {
				mustHold(t, joined(with(with(rows(k), "kty", `"`+kty+`"`), "crv", crv)))
			}
		}
	}
	var all []row
	for _, k := range one()[:3] {
		all = append(all, rows(k)[1:]...)
	}
	g := one()[2]
	mustSay(t, "15.5: all members at once", one()[0], joined(with(all, "kty", `"oct"`)))
	mustSay(t, "15.5: all members at once", one()[1], joined(with(all, "kty", `"RSA"`)))
	mustSay(t, "15.5: all members at once", g, joined(with(all, "kty", `"EC"`)))
	mustRead(t, "all members at once", api.ErrKty, joined(with(all, "kty", `"OKP"`)))
}

func mustHold(t *testing.T, text string) {
	t.Helper()
	holdValue(t, value(t, text), 0)
}

// isBytes: is the member one of bytes?
func isBytes(m row) bool { return m.name != "kty" && m.name != "crv" }

// Texts that are no base64url, or another spelling of the right bytes.
func TestSigns(t *testing.T) {
	t.Parallel()
	for _, k := range one() {
		for _, m := range rows(k) {
			if !isBytes(m) {
				continue
			}
			s := strings.Trim(m.says, `"`)
			for _, wrong := range []string{s + "=", s + "==", s + "===", "=" + s, s + " ", " " + s, s + `\n`, s + `\r\n`, s[:2] + `\n` + s[2:], s + `\u0000`, s[:1] + "+" + s[1:], s[:1] + "/" + s[1:], s[:1] + "é" + s[1:], s + ".", "A", "AB", "AAB", "!", ""} {
				mustRead(t, m.name, api.ErrKey, joined(with(rows(k), m.name, `"`+wrong+`"`)))
			}
			for _, other := range []string{s + "A", s + "AA", s + "AAA", s + "AAAA", "AAAA" + s, s[1:], s[:len(s)-1], s + s} {
				mustHold(t, joined(with(rows(k), m.name, `"`+other+`"`)))
			}
		}
	}
	// 43 signs are 32 bytes and two bits, 42 signs 31 bytes and four bits.
	for last, want := range map[string]api.Errno{"A": api.OK, "B": api.ErrKey, "C": api.ErrKey, "D": api.ErrKey, "E": api.OK, "_": api.ErrKey, "8": api.OK} {
		mustRead(t, "bits behind", want, `{"kty":"oct","k":"`+strings.Repeat("A", 42)+last+`"}`)
	}
	mustSay(t, "15.1", octKey(bytes.Repeat([]byte{0xff}, 33)), `{"kty":"oct","k":"`+strings.Repeat("_", 44)+`"}`)
	mustRead(t, "the other alphabet", api.ErrKey, `{"kty":"oct","k":"`+strings.Repeat("/", 44)+`"}`)
}

func quoted(b []byte) string { return `"` + signs(b) + `"` }

// okIf: what is answered of a key that is right, or not.
func okIf(right bool) api.Errno {
	if right {
		return api.OK
	}
	return api.ErrKey
}

// Every length of a secret that is an edge, and some others.
func TestSecrets(t *testing.T) {
	t.Parallel()
	for _, n := range []int{0, 1, 16, 30, 31, 32, 33, 34, 35, 48, 64, 4094, 4095, 4096, 4097, 4098, 8192, 100000} {
		want := okIf(n >= 32 && n <= 4096)
		mustRead(t, "secret", want, `{"kty":"oct","k":`+quoted(bytes.Repeat([]byte{9}, n))+`}`)
		mustText(t, "secret", want, octKey(bytes.Repeat([]byte{9}, n)))
	}
}

func mustText(t *testing.T, what string, want api.Errno, k api.Key) {
	t.Helper()
	if text, code := jwk.Text(k); code != want {
		t.Fatalf("15.2: %s: Text(%s) = %q, %d, want %d", what, told(k), text, int(code), int(want))
	}
	holdKey(t, k)
}

// Numbers of RSA: least bytes, odd, within the bounds.
func TestNumbers(t *testing.T) {
	t.Parallel()
	power := func(k uint, more int64) *big.Int {
		return new(big.Int).Add(new(big.Int).Lsh(big.NewInt(1), k), big.NewInt(more))
	}
	least, f4 := power(2047, 1), big.NewInt(65537)
	try := func(want api.Errno, n, e []byte) {
		t.Helper()
		mustRead(t, "RSA", want, joined([]row{{"kty", `"RSA"`}, {"n", quoted(n)}, {"e", quoted(e)}}))
		mustText(t, "RSA", want, rsaKey(n, e))
	}
	for _, n := range []*big.Int{least, power(2048, -1), power(2048, 1), power(4095, 1), power(4096, -1)} {
		try(api.OK, n.Bytes(), f4.Bytes())
		try(api.ErrKey, append([]byte{0}, n.Bytes()...), f4.Bytes())
		try(api.ErrKey, power(0, 0).Sub(n, big.NewInt(1)).Bytes(), f4.Bytes())
	}
	for _, n := range []*big.Int{big.NewInt(0), big.NewInt(15), power(2047, -1), power(4096, 1), power(8192, 1)} {
		try(api.ErrKey, n.Bytes(), f4.Bytes())
	}
	for _, e := range []*big.Int{big.NewInt(3), big.NewInt(5), f4, power(32, -1)} {
		try(api.OK, least.Bytes(), e.Bytes())
		try(api.ErrKey, least.Bytes(), append([]byte{0}, e.Bytes()...))
		try(api.ErrKey, least.Bytes(), append(e.Bytes(), 0))
	}
	for _, e := range []*big.Int{big.NewInt(0), big.NewInt(1), big.NewInt(2), big.NewInt(4), power(32, 0), power(32, 1), power(64, 1)} {
		try(api.ErrKey, least.Bytes(), e.Bytes())
	}
	try(api.ErrKey, f4.Bytes(), least.Bytes())
}

// Coordinates have as many bytes as the curve's numbers, noughts ahead too.
func TestCoordinates(t *testing.T) {
	t.Parallel()
	for _, k := range some() {
		if len(k.X) == 0 {
			continue
		}
		for _, m := range rows(k) {
			b, _ := unsigned(strings.Trim(m.says, `"`))
			if !isBytes(m) {
				continue
			}
			for _, wrong := range [][]byte{b[1:], b[:len(b)-1], append([]byte{0}, b...), append(slices.Clone(b), 0), nil, bytes.TrimLeft(b[1:], "\x00"), bytes.Repeat([]byte{0xff}, len(b)), append(slices.Clone(b), b...)} {
				mustRead(t, "coordinates", api.ErrKey, joined(with(rows(k), m.name, quoted(wrong))))
			}
		}
		if k.Kty == api.EC {
			mustRead(t, "turned round", api.ErrKey, joined(with(with(rows(k), "x", quoted(k.Y)), "y", quoted(k.X))))
		}
	}
}

// Keys that are not right: a part too many, another curve, another type.
func TestWrongKeys(t *testing.T) {
	t.Parallel()
	holdKey(t, api.Key{})
	mustText(t, "nothing", api.ErrKey, api.Key{})
	for _, k := range one() {
		mustText(t, "right", api.OK, k)
		for i := range 5 {
			o := k
			if part := []*[]byte{&o.Secret, &o.N, &o.E, &o.X, &o.Y}[i]; len(*part) == 0 {
				*part = []byte{}
				mustText(t, "an empty part", api.OK, o)
				*part = []byte{0}
			} else {
				*part = nil
			}
			mustText(t, "a part too many, or too few", api.ErrKey, o)
		}
		for i := -1; i < 7; i++ {
			o := k
			o.Crv = api.Crv(i)
			mustText(t, "another curve", okIf(o.Crv == k.Crv), o)
			o = k
			o.Kty = api.Kty(i)
			mustText(t, "another type", okIf(o.Kty == k.Kty), o)
		}
	}
}
