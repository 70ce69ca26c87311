package jwt

import (
	"errors"

	"signet/api"
)

// refusal: what was refused, and the code that it wraps.
type refusal struct {
	what string
	code api.Errno
}

func (r *refusal) Error() string { return r.what + ": " + r.code.Error() }

func (r *refusal) Unwrap() error { return r.code }

// refused: no error, if the code is OK.
func refused(what string, code api.Errno) error {
	if code == api.OK {
		return nil
	}
	return &refusal{what, code}
}

// codeOf: the code that an error wraps; OK, if there is no error.
func codeOf(err error) api.Errno {
	code := api.OK
	errors.As(err, &code)
	return code
}
