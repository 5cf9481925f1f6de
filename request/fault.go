package request

import (
	"errors"
	"strconv"

	"docket/api"
)

// noStep is told where a fault is found in no step.
const noStep = -1

// fault is an error's number on its way up to the call that tells it.
type fault api.Errno

func (f fault) Error() string { return "request: error " + strconv.Itoa(int(f)) }

// failed is no error where the number is OK.
func failed(e api.Errno) error {
	if e == api.OK {
		return nil
	}
	return fault(e)
}

// unless is no error where what is asked for holds.
func unless(holds bool, e api.Errno) error {
	if holds {
		return nil
	}
	return fault(e)
}

// located is an error with the number of the step in which it was found.
type located struct {
	cause error
	step  int
}

func (l located) Error() string { return l.cause.Error() + " in step " + strconv.Itoa(l.step) }

func (l located) Unwrap() error { return l.cause }

// told finds what a caller is told of an error.
func told(err error) (api.Errno, int) {
	var f fault
	l := located{step: noStep}
	errors.As(err, &f)
	errors.As(err, &l)
	return api.Errno(f), l.step
}
