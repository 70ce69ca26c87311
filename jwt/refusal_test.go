package jwt

import (
	"errors"
	"strings"
	"testing"

	"signet/api"
)

func judgedError(token, keys string, p api.Policy) error {
	_, err := judged(token, keys, p)
	return err
}

// What a step refuses is an error that wraps the one code, which the face tells.
func TestRefusals(t *testing.T) {
	if refused("nothing", api.OK) != nil || codeOf(nil) != api.OK {
		t.Fatal("a refusal of nothing")
	}
	p := api.Policy{Algs: []string{"HS256"}}
	const head = "eyJhbGciOiJIUzI1NiIsImtpZCI6ImsifQ" // {"alg":"HS256","kid":"k"}
	const secret = "AAAAAAAAAAAAAAAAAAAAAAAAAAAAAAAAAAAAAAAAAAA"
	for what, c := range map[string]struct {
		token, keys string
		p           api.Policy
		want        api.Errno
	}{
		"the policy: ":                {"", "", api.Policy{Leeway: -1}, api.ErrPolicy},
		"the token: ":                 {"", "", p, api.ErrDots},
		"the key set: ":               {"", strings.Repeat(" ", api.MaxKeys+1), p, api.ErrLarge},
		"the header: ":                {"=..", "", p, api.ErrSign},
		"the header, by the policy: ": {head + "..", "", api.Policy{}, api.ErrBarred},
		"the kid: ":                   {head + "..", `{"keys":[]}`, p, api.ErrNoKey},
		"the key's binding: ":         {head + "..", `{"keys":[{"kty":"RSA","kid":"k"}]}`, p, api.ErrBinding},
		"the key: ":                   {head + "..", `{"keys":[{"kty":"oct","kid":"k"}]}`, p, api.ErrMember},
		"the signature: ":             {head + "..", `{"keys":[{"kty":"oct","kid":"k","k":"` + secret + `"}]}`, p, api.ErrSignature},
	} {
		err := judgedError(c.token, c.keys, c.p)
		var r *refusal
		if !errors.As(err, &r) || errors.Unwrap(r) != error(c.want) || codeOf(err) != c.want {
			t.Errorf("%s%v does not wrap %d", what, err, int(c.want))
			continue
		}
		if err.Error() != what+c.want.Error() {
			t.Errorf("%q, want %q", err.Error(), what+c.want.Error())
		}
	}
	outer := errors.Join(errors.New("what stands around it"), refused("the payload", api.ErrClaims))
	if codeOf(outer) != api.ErrClaims {
		t.Errorf("%d of an error that stands around a refusal", int(codeOf(outer)))
	}
}
