package ident_test

import (
	"math"
	"math/rand"
	"strings"
	"testing"

	"docket/api"
	"docket/ident"
)

// The edges as the chapter writes them, so that a test does not follow a limit that another one stands for.
const (
	longestId   = 64
	longestName = 32
	mostStripes = 64
	allDigits   = 16
	noCounter   = math.MaxUint64
)

// dice makes texts and numbers that are the same in each run.
type dice struct{ *rand.Rand }

func newDice(seed int64) dice { return dice{rand.New(rand.NewSource(seed))} }

// text is of n bytes of those that are given.
func (d dice) text(n int, of string) string {
	var b strings.Builder
	for range n {
		b.WriteByte(of[d.Intn(len(of))])
	}
	return b.String()
}

const lettersOfNames = "abcmyz"

// name is a collection's name.
func (d dice) name() string {
	return d.text(1, lettersOfNames) + d.text(d.Intn(longestName), lettersOfNames+"0189-_.")
}

// id is an id, often with the byte that parts a key.
func (d dice) id() string {
	return d.text(1+d.Intn(longestId), "a/Z0!~./\"")
}

// number is near a power of two, small, or of any size.
func (d dice) number() uint64 {
	switch d.Intn(4) {
	case 0:
		return 1<<d.Intn(64) + uint64(d.Intn(5)) - 2
	case 1:
		return -uint64(d.Intn(40))
	case 2:
		return uint64(d.Intn(40))
	}
	return d.Uint64() >> d.Intn(64)
}

// numbers are those near which something may end: 0, each bit alone, all bits but one, and what lies beside them.
func numbers() []uint64 {
	all := []uint64{0, 0x5555555555555555, 0x0123456789abcdef, 0xfedcba9876543210}
	for bit := range 64 {
		one := uint64(1) << bit
		all = append(all, one-1, one, one+1, ^one, -one, ^(one - 1))
	}
	return all
}

func nextOf(t *testing.T, m *ident.Maker) string {
	t.Helper()
	id, e := m.Next()
	if e != api.OK {
		t.Fatalf("Next: %d", e)
	}
	return id
}
