package idtoken_test

import (
	"crypto/sha256"
	"crypto/sha512"
	"encoding/base64"
	"fmt"
	"math"
	"math/big"
	"regexp"
	"testing"

	"signet/api"
	"signet/claims"
	"signet/idtoken"
	"signet/json"
)

// The chapter's words, written out step by step, over Go's own sums and numbers.

const low, high = math.MinInt64, math.MaxInt64

// algs: the twelve, each with its name.
var algs = []struct {
	alg  api.Alg
	name string
}{
	{api.HS256, "HS256"}, {api.HS384, "HS384"}, {api.HS512, "HS512"},
	{api.RS256, "RS256"}, {api.RS384, "RS384"}, {api.RS512, "RS512"},
	{api.PS256, "PS256"}, {api.PS384, "PS384"}, {api.PS512, "PS512"},
	{api.ES256, "ES256"}, {api.ES384, "ES384"}, {api.EdDSA, "EdDSA"},
}

// noAlgs: values that are none of the twelve.
var noAlgs = []api.Alg{api.NoAlg, api.EdDSA + 1, -1, 14, 100, 256, 257, 1 << 32, 1<<32 + 1, high, low, low + 1}

// sumOf: a text's sum by the number in an algorithm's name; of EdDSA SHA-512.
func sumOf(name, text string) []byte {
	switch name[2:] {
	case "256":
		sum := sha256.Sum256([]byte(text))
		return sum[:]
	case "384":
		sum := sha512.Sum384([]byte(text))
		return sum[:]
	}
	sum := sha512.Sum512([]byte(text))
	return sum[:]
}

func wantHalf(a api.Alg, text string) (string, api.Errno) {
	for _, x := range algs {
		if x.alg == a {
			sum := sumOf(x.name, text)
			return base64.RawURLEncoding.EncodeToString(sum[:len(sum)/2]), api.OK
		}
	}
	return "", api.ErrAlg
}

func half(t testing.TB, a api.Alg, text string) string {
	t.Helper()
	out, code := wantHalf(a, text)
	if code != api.OK {
		t.Fatalf("%d is no algorithm", a)
	}
	return out
}

// behind: the place behind the value that begins at a place of a well shaped one.
func behind(v []api.Node, at int) int {
	next := at + 1
	for range v[at].Kids {
		next = behind(v, next)
	}
	return next
}

// member: the node of a name that stands directly in an object.
func member(v []api.Node, name string) (api.Node, bool) {
	if v[0].Kind != api.Object {
		return api.Node{}, false
	}
	at := 1
	for range v[0].Kids {
		if v[at].Key == name {
			return v[at], true
		}
		at = behind(v, at)
	}
	return api.Node{}, false
}

// isText: is there a member of that name that is the string?
func isText(v []api.Node, name, text string) bool {
	n, there := member(v, name)
	return there && n.Kind == api.String && n.Text == text
}

var wholeSpelling = regexp.MustCompile(`^-?(0|[1-9][0-9]*)$`)

// wholeOf: the number of a member that is a whole one, by its spelling.
func wholeOf(v []api.Node, name string) (*big.Int, bool) {
	n, there := member(v, name)
	if !there || n.Kind != api.Number || !wholeSpelling.MatchString(n.Text) {
		return nil, false
	}
	out, _ := new(big.Int).SetString(n.Text, 10)
	return out, out.IsInt64()
}

// refusals: of each of the eight steps, does it apply? Each is told by itself, as of 22.3.
func refusals(c api.Claims, a api.Alg, w api.Want, now int64) [8]bool {
	var out [8]bool
	out[0] = w.Leeway < 0 || w.Leeway > 600 || w.HasAge && (w.MaxAge < 0 || w.MaxAge > 2147483648)
	_, code := wantHalf(a, "")
	out[1] = code != api.OK
	for _, has := range []bool{c.HasIss, c.HasSub, c.HasAud, c.Exp.Has, c.Iat.Has} {
		out[2] = out[2] || !has
	}
	mine, others := 0, 0
	for _, aud := range c.Aud {
		if aud == w.Client {
			mine++
		} else {
			others++
		}
	}
	out[3] = mine == 0
	if _, there := member(c.Value, "azp"); there {
		out[4] = !isText(c.Value, "azp", w.Client)
	} else {
		out[4] = others > 0
	}
	out[5] = w.HasNonce && !isText(c.Value, "nonce", w.Nonce)
	access, _ := wantHalf(a, w.Access)
	exchange, _ := wantHalf(a, w.Code)
	out[6] = w.HasAccess && !isText(c.Value, "at_hash", access) || w.HasCode && !isText(c.Value, "c_hash", exchange)
	if w.HasAge {
		since, whole := wholeOf(c.Value, "auth_time")
		out[7] = !whole
		if whole {
			end := new(big.Int).Add(since, big.NewInt(w.MaxAge))
			end.Add(end, big.NewInt(w.Leeway))
			out[7] = big.NewInt(now).Cmp(end) > 0
		}
	}
	return out
}

var codes = [8]api.Errno{api.ErrPolicy, api.ErrAlg, api.ErrMissing, api.ErrAud, api.ErrAzp, api.ErrNonce, api.ErrHash, api.ErrAge}

// wantCheck: of claims whose value is well shaped.
func wantCheck(c api.Claims, a api.Alg, w api.Want, now int64) api.Errno {
	for i, refuses := range refusals(c, a, w, now) {
		if refuses {
			return codes[i]
		}
	}
	return api.OK
}

func short(x any) string { return fmt.Sprintf("%.600q", fmt.Sprintf("%+v", x)) }

// holdHalf: Half's answer, held against the words.
func holdHalf(t testing.TB, a api.Alg, text string) string {
	t.Helper()
	got, code := idtoken.Half(a, text)
	if want, wantCode := wantHalf(a, text); got != want || code != wantCode {
		t.Fatalf("22.1: Half(%d, %.100q) = %q, %d, want %q, %d", int(a), text, got, int(code), want, int(wantCode))
	}
	return got
}

// holdCheck: Check's answer, held against the words; and 22.4: at lesser clocks.
func holdCheck(t testing.TB, c api.Claims, a api.Alg, w api.Want, now int64) api.Errno {
	t.Helper()
	got := idtoken.Check(c, a, w, now)
	if want := wantCheck(c, a, w, now); got != want {
		t.Fatalf("22.2: Check(%s, %d, %s, %d) = %d, want %d", short(c), int(a), short(w), now, int(got), int(want))
	}
	if got != api.OK {
		return got
	}
	for _, less := range []int64{low, now - 1, now/2 - 1, -now} {
		if less < now && idtoken.Check(c, a, w, less) != api.OK {
			t.Fatalf("22.4: Check(%s, %d, %s): let by at %d, and not at %d", short(c), int(a), short(w), now, less)
		}
	}
	return got
}

func mustCheck(t testing.TB, want api.Errno, c api.Claims, a api.Alg, w api.Want, now int64) {
	t.Helper()
	if got := holdCheck(t, c, a, w, now); got != want {
		t.Fatalf("22.2: Check(%s, %d, %s, %d) = %d, want %d", short(c), int(a), short(w), now, int(got), int(want))
	}
}

func parsed(t testing.TB, payload string) api.Claims {
	t.Helper()
	c, code := claims.Parse(payload)
	if code != api.OK {
		t.Fatalf("claims.Parse(%.300q) = %d", payload, int(code))
	}
	return c
}

// full: the claims of a token that has all that every ID token must have, and these members beside them.
func full(t testing.TB, more ...string) api.Claims {
	t.Helper()
	return fullFor(t, `"c"`, more...)
}

// fullFor: the same for an audience that is spelled as JSON.
func fullFor(t testing.TB, aud string, more ...string) api.Claims {
	t.Helper()
	payload := `{"iss":"i","sub":"s","exp":100,"iat":1,"aud":` + aud
	for _, m := range more {
		payload += "," + m
	}
	return parsed(t, payload+"}")
}

// of: claims made by hand that have all fields which must be there, over a value.
func of(v []api.Node, aud ...string) api.Claims {
	there := api.Time{Has: true}
	return api.Claims{Value: v, HasIss: true, HasSub: true, HasAud: true, Aud: aud, Exp: there, Iat: there}
}

func value(t testing.TB, text string) []api.Node {
	t.Helper()
	v, code, _ := json.Parse(text)
	if code != api.OK {
		t.Fatalf("json.Parse(%.300q) = %d", text, int(code))
	}
	return v
}
