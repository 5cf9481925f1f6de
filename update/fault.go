package update

import (
	"errors"
	"strconv"

	"docket/api"
)

// fault is an error's number on its way up to the call that tells it.
type fault api.Errno

func (f fault) Error() string { return "update: error " + strconv.Itoa(int(f)) }

// failed is no error where the number is OK.
func failed(e api.Errno) error {
	if e == api.OK {
		return nil
	}
	return fault(e)
}

// located is an error with the number of the term at which it was found.
type located struct {
	cause error
	term  int
}

func (l located) Error() string { return l.cause.Error() + " at term " + strconv.Itoa(l.term) }

func (l located) Unwrap() error { return l.cause }

// told finds what a caller is told of an error; one that was found at no term is told with 0.
func told(err error) (api.Errno, int) {
	var f fault
	var l located
	errors.As(err, &f)
	errors.As(err, &l)
	return api.Errno(f), l.term
}
