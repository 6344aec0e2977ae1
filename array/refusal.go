package array

import (
	"errors"

	"caulker/api"
)

// The kinds of what a call is refused for, each with a number at the face.
var (
	errNil    = errors.New("not made by New")
	errBroken = errors.New("nothing more is done")
	errRange  = errors.New("none of that number")
	errArg    = errors.New("may not be")
	errGone   = errors.New("gone")
	errIO     = errors.New("refused")
)

// refusal is what a call is refused for: what stands against it, and of which kind that is.
type refusal struct {
	what string
	kind error
}

func (r refusal) Error() string { return r.what + ": " + r.kind.Error() }
func (r refusal) Unwrap() error { return r.kind }

// unless tells a refusal where something does not hold.
func unless(holds bool, what string, kind error) error {
	if holds {
		return nil
	}
	return refusal{what: what, kind: kind}
}

// number tells a refusal's number.
func number(err error) api.Errno {
	switch {
	case errors.Is(err, errNil):
		return api.ErrNil
	case errors.Is(err, errBroken):
		return api.ErrBroken
	case errors.Is(err, errRange):
		return api.ErrRange
	case errors.Is(err, errArg):
		return api.ErrArg
	case errors.Is(err, errGone):
		return api.ErrGone
	case errors.Is(err, errIO):
		return api.ErrIO
	}
	return api.OK
}
