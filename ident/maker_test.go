package ident_test

import (
	"math"
	"strings"
	"testing"

	"docket/api"
	"docket/ident"
)

// P8.6: an id that can be reckoned by hand: Mix(Mix(0) exclusive-or Mix(0)) is Mix(0).
func TestNextByHand(t *testing.T) {
	m := ident.NewMaker(0, 0xe220a8397b1dcdaf)
	if id, e := m.Next(); id != "ge220a8397b1dcdaf" || e != api.OK {
		t.Errorf("Next: %q, %d", id, e)
	}
	if n := m.Counter(); n != 0xe220a8397b1dcdb0 {
		t.Errorf("Counter: %x", n)
	}
}

// P8.6: what begins with a 0 is written with all digits.
func TestNextWithZeroesAhead(t *testing.T) {
	for _, n := range []uint64{0, 1, 0xf, 0x10, 0x0123456789abcdef, 0xabcdef, math.MaxUint64, 1 << 60, 1<<60 - 1} {
		want := strings.Repeat("0", 16)
		for level := range 16 {
			digit := "0123456789abcdef"[n>>(4*level)&15]
			want = want[:15-level] + string(digit) + want[16-level:]
		}
		counter := ident.Unmix(n) ^ ident.Mix(9)
		if id, e := ident.NewMaker(9, counter).Next(); id != "g"+want || e != api.OK {
			t.Errorf("Next: %q, %d; want g%s", id, e, want)
		}
		if c, ok := ident.Made("g"+want, 9); c != counter || !ok {
			t.Errorf("Made(g%s, 9): %x, %t; want %x", want, c, ok, counter)
		}
	}
}

// P8.6, held against the chapter's words: seeds and counters of dice, several ids of each.
func TestNext(t *testing.T) {
	d := newDice(86)
	for range 800 {
		seed, counter := d.number(), d.number()
		holdMaker(t, seed, counter, 1+d.Intn(8))
	}
	for _, seed := range []uint64{0, 1, 7, 15, 1 << 63, math.MaxUint64} {
		holdMaker(t, seed, 0, 20)
		holdMaker(t, seed, 1<<63-3, 6)
		holdMaker(t, seed, noCounter-4, 8)
	}
}

// holdMaker holds the next ids of a maker against the words, and its counter ahead of each; where no counter is left it tells so and stays as it is.
func holdMaker(t *testing.T, seed, counter uint64, times int) {
	t.Helper()
	m := ident.NewMaker(seed, counter)
	for range times {
		if got := m.Counter(); got != counter {
			t.Fatalf("the maker of %x: Counter %x; want %x", seed, got, counter)
		}
		id, e := m.Next()
		if counter == noCounter {
			if id != "" || e != api.ErrMade {
				t.Fatalf("the maker of %x at its end: %q, %d", seed, id, e)
			}
			continue
		}
		if want := wordsMade(seed, counter); id != want || e != api.OK {
			t.Fatalf("the maker of %x at %x: %q, %d; want %q", seed, counter, id, e, want)
		}
		if !ident.Id(id) {
			t.Fatalf("%q is made, and is no id", id)
		}
		holdMade(t, id, seed, counter)
		counter++
	}
}

func holdMade(t *testing.T, id string, seed, want uint64) {
	t.Helper()
	if got, ok := ident.Made(id, seed); got != want || !ok {
		t.Fatalf("Made(%q, %x): %x, %t; want %x", id, seed, got, ok, want)
	}
}

// P8.6: the last counter is never used, however often one asks.
func TestNoNumberIsLeft(t *testing.T) {
	for _, seed := range []uint64{0, 7, math.MaxUint64} {
		m := ident.NewMaker(seed, noCounter-1)
		if id := nextOf(t, m); id != wordsMade(seed, noCounter-1) {
			t.Errorf("the last one: %q", id)
		}
		for range 3 {
			if id, e := m.Next(); id != "" || e != api.ErrMade {
				t.Errorf("behind the last one: %q, %d", id, e)
			}
			if n := m.Counter(); n != noCounter {
				t.Errorf("behind the last one: Counter %x", n)
			}
		}
		if id, e := ident.NewMaker(seed, noCounter).Next(); id != "" || e != api.ErrMade {
			t.Errorf("at its end from the beginning on: %q, %d", id, e)
		}
		noneMakes(t, wordsMade(seed, noCounter), seed)
	}
}

func noneMakes(t *testing.T, id string, seed uint64) {
	t.Helper()
	if n, ok := ident.Made(id, seed); n != 0 || ok {
		t.Errorf("Made(%q, %x): %x, %t", id, seed, n, ok)
	}
}

// P8.6: texts that no maker makes.
func TestMadeByNone(t *testing.T) {
	const sixteen = "0123456789abcdef"
	for _, id := range []string{
		"", "g", "x", sixteen, "G" + sixteen, "f" + sixteen, "h" + sixteen, "gg" + sixteen, " g" + sixteen, "g " + sixteen,
		"g" + sixteen + " ", "g" + sixteen + "0", "g0" + sixteen, "g" + sixteen[1:], "g" + sixteen[:15], "g" + sixteen[:15] + "g",
		"g" + strings.ToUpper(sixteen), "g+123456789abcdef", "g-123456789abcdef", "g0x23456789abcdef", "g0123456789abcde_",
		"g0123_4567_89abcd", "g" + strings.Repeat("\x00", 16), "g" + strings.Repeat("é", 8), sixteen + "g", "g" + strings.Repeat("0", 32), "g" + strings.Repeat("0", 1000),
	} {
		for _, seed := range []uint64{0, 7, math.MaxUint64} {
			noneMakes(t, id, seed)
		}
	}
}

// P8.6: every byte in every place of a text that a maker makes.
func TestMadeAtEveryByte(t *testing.T) {
	const made = "g0123456789abcdef"
	makes := 0
	for at := range len(made) {
		for b := range 256 {
			spoilt := made[:at] + string([]byte{byte(b)}) + made[at+1:]
			counter, ok := ident.Made(spoilt, 7)
			if want := at == 0 && b == 'g' || at > 0 && strings.IndexByte("0123456789abcdef", byte(b)) >= 0; ok != want {
				t.Fatalf("Made(%q, 7): %x, %t", spoilt, counter, ok)
			}
			if !ok && counter != 0 {
				t.Fatalf("Made(%q, 7): %x beside a false", spoilt, counter)
			}
			if ok {
				makes++
				if id := nextOf(t, ident.NewMaker(7, counter)); id != spoilt {
					t.Fatalf("Made(%q, 7): %x, which makes %q", spoilt, counter, id)
				}
			}
		}
	}
	if makes != 1+16*16 {
		t.Errorf("%d are made", makes)
	}
}

// P8.6: of another seed it is another counter, or none.
func TestMadeByAnotherSeed(t *testing.T) {
	d := newDice(87)
	for range 2000 {
		seed, other, counter := d.number(), d.number(), d.number()
		if counter == noCounter || seed == other {
			continue
		}
		id := nextOf(t, ident.NewMaker(seed, counter))
		got, ok := ident.Made(id, other)
		if !ok || got == counter {
			t.Fatalf("Made(%q, %x): %x, %t, as with %x", id, other, got, ok, seed)
		}
		if again := nextOf(t, ident.NewMaker(other, got)); again != id {
			t.Fatalf("Made(%q, %x): %x, which makes %q", id, other, got, again)
		}
	}
}

// P8.7.
func TestNilMaker(t *testing.T) {
	var m *ident.Maker
	for range 2 {
		if id, e := m.Next(); id != "" || e != api.ErrMade {
			t.Errorf("Next: %q, %d", id, e)
		}
		if n := m.Counter(); n != 0 {
			t.Errorf("Counter: %d", n)
		}
	}
}

// The chapter's number of the error.
func TestErrMade(t *testing.T) {
	if _, e := ident.NewMaker(7, noCounter).Next(); e != 80 {
		t.Errorf("Next: %d", e)
	}
}
