package spki

import (
	"errors"
	"strings"
	"testing"

	"signet/api"
)

// bottom: the last error of those that an error wraps.
func bottom(err error) error {
	for inner := errors.Unwrap(err); inner != nil; inner = errors.Unwrap(err) {
		err = inner
	}
	return err
}

func readFault(b []byte) error {
	_, err := read(b)
	return err
}

func textFault(text string) error {
	_, err := unlined(text)
	return err
}

func rsaFault(b []byte) error {
	_, _, err := numbers(b)
	return err
}

// What is told inside wraps one code, which the face tells.
func TestFaults(t *testing.T) {
	point := make([]byte, 32) // y = 0 of Ed25519
	whole, code := Print(api.Key{Kty: api.OKP, Crv: api.Ed25519, X: point})
	if code != api.OK {
		t.Fatalf("14.2: %d", int(code))
	}
	for _, err := range []error{nil, readFault(whole), textFault(lined(whole)), right(api.Key{Kty: api.OKP, Crv: api.Ed25519, X: point})} {
		if err != nil || codeOf(err) != api.OK {
			t.Errorf("%v, %d of what is right", err, int(codeOf(err)))
		}
	}
	for what, c := range map[string]struct {
		err  error
		want api.Errno
	}{
		"too many bytes":        {readFault(make([]byte, api.MaxDer+1)), api.ErrLarge},
		"no DER":                {readFault(whole[1:]), api.ErrDer},
		"no key":                {readFault([]byte{5, 0}), api.ErrDer},
		"in an RSA key's bytes": {rsaFault([]byte{0x30}), api.ErrDer},
		"no text":               {textFault(""), api.ErrPem},
		"no base64":             {textFault("?"), api.ErrPem},
		"no type":               {right(api.Key{}), api.ErrKey},
		"no secret":             {right(api.Key{Kty: api.Oct}), api.ErrKey},
		"a part too many":       {right(api.Key{Kty: api.OKP, Crv: api.Ed25519, X: point, Y: point}), api.ErrKey},
	} {
		if got := codeOf(c.err); got != c.want {
			t.Errorf("%s: %v: %d, want %d", what, c.err, int(got), int(c.want))
		}
		if errors.Unwrap(c.err) == nil || !errors.Is(c.err, c.want) || bottom(c.err) != error(c.want) {
			t.Errorf("%s: %v does not wrap %d", what, c.err, int(c.want))
		}
		if !strings.HasSuffix(c.err.Error(), ": "+c.want.Error()) {
			t.Errorf("%s: %v does not tell its code", what, c.err)
		}
	}
	inner := errors.Unwrap(rsaFault([]byte{0x30}))
	if errors.Unwrap(inner) == nil || !errors.Is(inner, api.ErrDer) {
		t.Errorf("a fault within an RSA key's bytes is not wrapped by another one: %v", inner)
	}
}
