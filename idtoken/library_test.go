package idtoken_test

import (
	"bytes"
	"crypto/ed25519"
	"crypto/sha512"
	"encoding/base64"
	stdjson "encoding/json"
	"math/big"
	"math/rand"
	"testing"

	"signet/api"
	"signet/idtoken"
	"signet/jwt"
)

// theirs: the members of a payload, as Go's own library reads them.
type theirs map[string]any

func decoded(t *testing.T, payload string) theirs {
	t.Helper()
	d := stdjson.NewDecoder(bytes.NewReader([]byte(payload)))
	d.UseNumber()
	var out theirs
	if err := d.Decode(&out); err != nil {
		t.Fatalf("%.300q: %v", payload, err)
	}
	return out
}

// audiences: those that are mine, and the others.
func (m theirs) audiences(client string) (mine, others int) {
	l, isList := m["aud"].([]any)
	if !isList {
		l = []any{m["aud"]}
	}
	for _, aud := range l {
		if aud == client {
			mine++
		} else {
			others++
		}
	}
	return mine, others
}

// tooOld: by the library's reading of a number, which takes as an int64 what is spelled as one.
func (m theirs) tooOld(w api.Want, now int64) bool {
	n, isNumber := m["auth_time"].(stdjson.Number)
	since, err := n.Int64()
	if !isNumber || err != nil {
		return true
	}
	left := new(big.Int).Sub(big.NewInt(now), big.NewInt(since))
	return left.Cmp(new(big.Int).Add(big.NewInt(w.MaxAge), big.NewInt(w.Leeway))) > 0
}

// judged: the answer to a payload, a right algorithm and a want within its bounds.
func (m theirs) judged(a api.Alg, w api.Want, now int64) api.Errno {
	for _, name := range []string{"iss", "sub", "aud", "exp", "iat"} {
		if _, there := m[name]; !there {
			return api.ErrMissing
		}
	}
	mine, others := m.audiences(w.Client)
	azp, party := m["azp"]
	access, _ := wantHalf(a, w.Access)
	exchange, _ := wantHalf(a, w.Code)
	switch {
	case mine == 0:
		return api.ErrAud
	case party && azp != w.Client, !party && others > 0:
		return api.ErrAzp
	case w.HasNonce && m["nonce"] != w.Nonce:
		return api.ErrNonce
	case w.HasAccess && m["at_hash"] != access, w.HasCode && m["c_hash"] != exchange:
		return api.ErrHash
	case w.HasAge && m.tooOld(w, now):
		return api.ErrAge
	}
	return api.OK
}

// comparable: may the library's values be held against a text by ==? Lists and objects may not.
func (m theirs) comparable() bool {
	for _, name := range []string{"azp", "nonce", "at_hash", "c_hash"} {
		switch m[name].(type) {
		case []any, theirs, map[string]any:
			return false
		}
	}
	return true
}

func TestAgainstLibrary(t *testing.T) {
	t.Parallel()
	r := rand.New(rand.NewSource(7))
	met := map[api.Errno]int{}
	for range 8000 {
		p := drawnPlan(r)
		p[0], p[1] = false, false
		c, a, w, now := p.laid(t, r)
		m := decoded(t, printed(t, c.Value))
		if !m.comparable() {
			continue
		}
		got := idtoken.Check(c, a, w, now)
		if want := m.judged(a, w, now); got != want {
			t.Fatalf("22.2: Check(%s, %d, %s, %d) = %d, and %d by the library", short(c), int(a), short(w), now, int(got), int(want))
		}
		met[got]++
	}
	for _, code := range append(codes[2:], api.OK) {
		if met[code] < 100 {
			t.Fatalf("only %d of %d", met[code], int(code))
		}
	}
}

const janeDoe = `"iss": "http://server.example.com",
 "sub": "248289761001",
 "aud": "s6BhdRkqt3",
 "nonce": "n-0S6_WzA2Mj",
 "exp": 1311281970,
 "iat": 1311280970,
 "name": "Jane Doe",
 "given_name": "Jane",
 "family_name": "Doe",
 "gender": "female",
 "birthdate": "0000-10-31",
 "email": "janedoe@example.com",
 "picture": "http://example.com/janedoe/me.jpg"`

// OpenID Connect Core 1.0's ID tokens: section 2, and appendix A.2, A.3, A.4 and A.6.
func TestCore(t *testing.T) {
	t.Parallel()
	const atHash, cHash = `"at_hash": "77QmUPtjPfzWtF2AnpK9RQ"`, `"c_hash": "LDktKdoQak3Pk0cnXxCltA"`
	client := api.Want{Client: "s6BhdRkqt3", HasNonce: true, Nonce: "n-0S6_WzA2Mj"}
	const now = 1311281000
	withAccess, withCode, withBoth := client, client, client
	withAccess.HasAccess, withAccess.Access = true, access
	withCode.HasCode, withCode.Code = true, exchange
	withBoth.HasAccess, withBoth.Access, withBoth.HasCode, withBoth.Code = true, access, true, exchange
	a2, a3 := parsed(t, "{"+janeDoe+"}"), parsed(t, "{"+janeDoe+","+atHash+"}")
	a4, a6 := parsed(t, "{"+janeDoe+","+cHash+"}"), parsed(t, "{"+janeDoe+","+atHash+","+cHash+"}")
	for i, row := range []struct {
		want api.Want
		oks  [4]bool
	}{{client, [4]bool{true, true, true, true}}, {withAccess, [4]bool{false, true, false, true}}, {withCode, [4]bool{false, false, true, true}}, {withBoth, [4]bool{false, false, false, true}}} {
		for j, c := range []api.Claims{a2, a3, a4, a6} {
			want := api.ErrHash
			if row.oks[j] {
				want = api.OK
			}
			if got := idtoken.Check(c, api.RS256, row.want, now); got != want {
				t.Fatalf("22.2: want %d of the token %d: %d, want %d", i, j, int(got), int(want))
			}
		}
	}
	section2 := parsed(t, `{
   "iss": "https://server.example.com",
   "sub": "24400320",
   "aud": "s6BhdRkqt3",
   "nonce": "n-0S6_WzA2Mj",
   "exp": 1311281970,
   "iat": 1311280970,
   "auth_time": 1311280969,
   "acr": "urn:mace:incommon:iap:silver"
  }`)
	client.HasAge, client.MaxAge = true, 31
	mustCheck(t, api.OK, section2, api.RS256, client, now)
	mustCheck(t, api.ErrAge, section2, api.RS256, client, now+1)
	client.Leeway = 1
	mustCheck(t, api.OK, section2, api.RS256, client, now+1)
}

// A token that the library signs goes through jwt.Verify, and what that answers through Check.
func TestBehindVerify(t *testing.T) {
	t.Parallel()
	public, private, err := ed25519.GenerateKey(nil)
	if err != nil {
		t.Fatal(err)
	}
	b64 := base64.RawURLEncoding.EncodeToString
	sum := sha512.Sum512([]byte(access))
	payload := `{"iss":"i","sub":"s","aud":["c","d"],"azp":"c","exp":1000,"iat":900,"nonce":"n","auth_time":880,"at_hash":"` + b64(sum[:32]) + `"}`
	signing := b64([]byte(`{"alg":"EdDSA","kid":"k"}`)) + "." + b64([]byte(payload))
	token := signing + "." + b64(ed25519.Sign(private, []byte(signing)))
	keys := `{"keys":[{"kty":"OKP","crv":"Ed25519","kid":"k","x":"` + b64(public) + `"}]}`
	policy := api.Policy{Algs: []string{"EdDSA"}, HasIss: true, Iss: "i", HasAud: true, Aud: "c"}
	c, code := jwt.Verify(token, keys, policy, 950)
	if code != api.OK {
		t.Fatalf("jwt.Verify = %d", int(code))
	}
	w := api.Want{Client: "c", HasNonce: true, Nonce: "n", HasAccess: true, Access: access, HasAge: true, MaxAge: 60, Leeway: 10}
	mustCheck(t, api.OK, c, api.EdDSA, w, 950)
	mustCheck(t, api.ErrAge, c, api.EdDSA, w, 951)
	mustCheck(t, api.ErrHash, c, api.ES256, w, 950)
	w.Client = "d"
	mustCheck(t, api.ErrAzp, c, api.EdDSA, w, 950)
	w.Client = "e"
	mustCheck(t, api.ErrAud, c, api.EdDSA, w, 950)
	mustCheck(t, api.ErrMissing, api.Claims{Value: c.Value}, api.EdDSA, w, 950)
}
