package spki

import (
	"errors"

	"signet/api"
)

// fault: what is wrong, and the error that it wraps: another fault, or at last the code.
type fault struct {
	what  string
	inner error
}

func (f *fault) Error() string { return f.what + ": " + f.inner.Error() }

func (f *fault) Unwrap() error { return f.inner }

func notDer(what string) error { return &fault{what, api.ErrDer} }

func notKey(what string) error { return &fault{what, api.ErrKey} }

// codeOf: the code that an error wraps; OK, if there is no error.
func codeOf(err error) api.Errno {
	switch {
	case err == nil:
		return api.OK
	case errors.Is(err, api.ErrLarge):
		return api.ErrLarge
	case errors.Is(err, api.ErrPem):
		return api.ErrPem
	case errors.Is(err, api.ErrDer):
		return api.ErrDer
	}
	return api.ErrKey
}
