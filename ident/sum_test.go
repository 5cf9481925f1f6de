package ident_test

import (
	"hash/fnv"
	"math"
	"strings"
	"testing"

	"docket/ident"
)

// P8.3: sums that are known.
func TestHash(t *testing.T) {
	for s, want := range map[string]uint64{
		"":         0xcbf29ce484222325,
		"a":        0xaf63dc4c8601ec8c,
		"b":        0xaf63df4c8601f1a5,
		"foobar":   0x85944171f73967e8,
		"chongo":   0xe150688c8217b8fd,
		"\x00":     0xaf63bd4c8601b7df,
		"\x00\x00": 0x08328807b4eb6fed,
	} {
		if h := ident.Hash(s); h != want {
			t.Errorf("Hash(%q): %x; want %x", s, h, want)
		}
	}
	if h := ident.Hash(""); h != 14695981039346656037 {
		t.Errorf("Hash of nothing: %d", h)
	}
}

// P8.3: HashOn begins where it is told to.
func TestHashOn(t *testing.T) {
	for _, h := range numbers() {
		if got := ident.HashOn(h, ""); got != h {
			t.Errorf("HashOn(%x, nothing): %x", h, got)
		}
		for _, s := range []string{"\x00", "\x01", "a", "\xff", "ab", "ba", "\x80\x00\x7f", "a key/that is longer"} {
			if got, want := ident.HashOn(h, s), wordsHashOn(h, s); got != want {
				t.Fatalf("HashOn(%x, %q): %x; want %x", h, s, got, want)
			}
		}
	}
	if got := ident.HashOn(0, "\x01"); got != 1099511628211 {
		t.Errorf("HashOn(0, 1): %d", got)
	}
}

// P8.3, at all bytes, and at texts of dice: held against the library's sum, and against the chapter's words.
func TestHashOfDice(t *testing.T) {
	d := newDice(83)
	every := make([]byte, 256)
	for i := range every {
		every[i] = byte(i)
		holdHash(t, d, string(every[i:i+1]))
	}
	holdHash(t, d, string(every))
	for range 2000 {
		holdHash(t, d, d.text(d.Intn(100), string(every)))
	}
	holdHash(t, d, strings.Repeat("long", 5000))
}

func holdHash(t *testing.T, d dice, s string) {
	t.Helper()
	sum := fnv.New64a()
	sum.Write([]byte(s))
	if got := ident.Hash(s); got != sum.Sum64() {
		t.Fatalf("Hash(%q): %x; want %x", s, got, sum.Sum64())
	}
	h := d.number()
	if got, want := ident.HashOn(h, s), wordsHashOn(h, s); got != want {
		t.Fatalf("HashOn(%x, %q): %x; want %x", h, s, got, want)
	}
}

// P8.4: the sum of foobar is beyond 2^63, so that a remainder with a sign would be another.
func TestStripe(t *testing.T) {
	for n, want := range map[int]int{1: 0, 2: 0, 3: 0, 10: 8, 63: 6, 64: 0x28, 65: 0, 128: 0, 0: 0, -1: 0, -64: 0, math.MaxInt: 0, math.MinInt: 0} {
		if got := ident.Stripe("foobar", n); got != want {
			t.Errorf("Stripe(foobar, %d): %d; want %d", n, got, want)
		}
	}
}

// P8.4: also of texts that are no keys.
func TestStripesOfDice(t *testing.T) {
	d := newDice(84)
	met := map[[2]int]int{}
	for range 3000 {
		key := d.text(d.Intn(20), "ab/\x00\xff ")
		for _, n := range []int{-1, 0, 1, 2, 3, 5, 7, 16, 32, 63, mostStripes, mostStripes + 1, 1 << 40, d.Intn(200) - 60} {
			got := ident.Stripe(key, n)
			if want := wordsStripe(key, n); got != want {
				t.Fatalf("Stripe(%q, %d): %d; want %d", key, n, got, want)
			}
			met[[2]int{n, got}]++
		}
	}
	for stripe := range mostStripes {
		if met[[2]int{mostStripes, stripe}] == 0 {
			t.Errorf("stripe %d was never told", stripe)
		}
	}
}

// P8.4.
func TestDigit(t *testing.T) {
	for _, c := range []struct {
		h           uint64
		level, want int
	}{
		{0x1f, 0, 15},
		{0x1f, 1, 1},
		{0x1f, 2, 0},
		{0x1f, 16, 0},
		{0x1f, -1, 0},
		{0x0123456789abcdef, 0, 15},
		{0x0123456789abcdef, 7, 8},
		{0x0123456789abcdef, 15, 0},
		{0xfedcba9876543210, 15, 15},
		{0xfedcba9876543210, 14, 14},
		{0xfedcba9876543210, 0, 0},
		{math.MaxUint64, 15, 15},
		{math.MaxUint64, 16, 0},
		{math.MaxUint64, 17, 0},
		{math.MaxUint64, -1, 0},
		{math.MaxUint64, -16, 0},
		{math.MaxUint64, 1 << 30, 0},
		{math.MaxUint64, 1 << 62, 0}, // times 4 it is 0
		{math.MaxUint64, math.MaxInt, 0},
		{math.MaxUint64, math.MinInt, 0},
	} {
		if got := ident.Digit(c.h, c.level); got != c.want {
			t.Errorf("Digit(%x, %d): %d; want %d", c.h, c.level, got, c.want)
		}
	}
}

// P8.4.
func TestDigitsOfNumbers(t *testing.T) {
	d := newDice(85)
	all := numbers()
	for range 2000 {
		all = append(all, d.Uint64())
	}
	for _, h := range all {
		for level := -3; level < allDigits+4; level++ {
			if got, want := ident.Digit(h, level), wordsDigit(h, level); got != want {
				t.Fatalf("Digit(%x, %d): %d; want %d", h, level, got, want)
			}
		}
	}
}
