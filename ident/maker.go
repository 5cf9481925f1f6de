package ident

import (
	"math"
	"strings"

	"docket/api"
)

const (
	madeBegins = "g"
	letters    = "0123456789abcdef" // of the digits
	noCounter  = math.MaxUint64     // behind the last that is used: a counter one more would begin anew
)

// Maker makes ids that never meet.
type Maker struct {
	mixed   uint64 // of the seed
	counter uint64 // the next
}

// NewMaker: P8.6.
func NewMaker(seed, counter uint64) *Maker {
	return &Maker{mixed: Mix(seed), counter: counter}
}

// Next: P8.6, P8.7.
func (m *Maker) Next() (string, api.Errno) {
	if m == nil || m.counter == noCounter {
		return "", api.ErrMade
	}
	id := madeBegins + written(Mix(m.mixed^m.counter))
	m.counter++
	return id, api.OK
}

// Counter: P8.6, P8.7.
func (m *Maker) Counter() uint64 {
	if m == nil {
		return 0
	}
	return m.counter
}

// Made: P8.6.
func Made(id string, seed uint64) (uint64, bool) {
	digits, begins := strings.CutPrefix(id, madeBegins)
	n, are := read(digits)
	counter := Unmix(n) ^ Mix(seed)
	if !begins || !are || counter == noCounter {
		return 0, false
	}
	return counter, true
}

// written is all digits of n, the highest first.
func written(n uint64) string {
	var digits [api.Digits]byte
	for i := range digits {
		digits[i] = letters[Digit(n, api.Digits-1-i)]
	}
	return string(digits[:])
}

// read is the number of which these are all digits, and whether they are.
func read(digits string) (uint64, bool) {
	if len(digits) != api.Digits {
		return 0, false
	}
	n := uint64(0)
	for i := range len(digits) {
		digit := strings.IndexByte(letters, digits[i])
		if digit < 0 {
			return 0, false
		}
		n = n*base + uint64(digit)
	}
	return n, true
}
