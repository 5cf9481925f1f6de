package ident_test

import (
	"testing"

	"docket/ident"
)

// P8.5: numbers that are known. A further one begins where the one ahead of it had added.
func TestMix(t *testing.T) {
	const plus = uint64(11400714819323198485)
	n := uint64(0)
	for _, want := range []uint64{0xe220a8397b1dcdaf, 0x6e789e6aa1b965f4, 0x06c45d188009454f, 0xf88bb8a8724c81ec, 0x1b39896a51a8749b} {
		if got := ident.Mix(n); got != want {
			t.Errorf("Mix(%x): %x; want %x", n, got, want)
		}
		if got := ident.Unmix(want); got != n {
			t.Errorf("Unmix(%x): %x; want %x", want, got, n)
		}
		n += plus
	}
}

// P8.5, where the first sum is 0, all is.
func TestMixToNothing(t *testing.T) {
	const least = 1<<64 - 11400714819323198485
	if got := ident.Mix(least); got != 0 {
		t.Errorf("Mix(%x): %x", uint64(least), got)
	}
	if got := ident.Unmix(0); got != least {
		t.Errorf("Unmix(0): %x", got)
	}
}

// P8.5, held against the chapter's words.
func TestMixOfNumbers(t *testing.T) {
	d := newDice(85)
	all := numbers()
	for range 5000 {
		all = append(all, d.number(), d.Uint64())
	}
	for _, n := range all {
		if got, want := ident.Mix(n), wordsMix(n); got != want {
			t.Fatalf("Mix(%x): %x; want %x", n, got, want)
		}
		if was := ident.Unmix(n); wordsMix(was) != n {
			t.Fatalf("Unmix(%x): %x, whose Mix is %x", n, was, wordsMix(was))
		}
	}
}
