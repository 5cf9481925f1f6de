package ident_test

import (
	"sync"
	"testing"

	"docket/api"
	"docket/ident"
)

// P8.8.
func TestSumsGoOn(t *testing.T) {
	d := newDice(88)
	for range 4000 {
		a, b := d.text(d.Intn(30), "a/\x00\xff~"), d.text(d.Intn(30), "b/\x00\xff~")
		if got, want := ident.HashOn(ident.Hash(a), b), ident.Hash(a+b); got != want {
			t.Fatalf("HashOn(Hash(%q), %q): %x; want %x", a, b, got, want)
		}
		h := d.number()
		if got, want := ident.HashOn(ident.HashOn(h, a), b), ident.HashOn(h, a+b); got != want {
			t.Fatalf("HashOn(HashOn(%x, %q), %q): %x; want %x", h, a, b, got, want)
		}
	}
}

// P8.8: the digits are put together again, and are the sum.
func TestDigitsTellASum(t *testing.T) {
	d := newDice(89)
	all := numbers()
	for range 2000 {
		all = append(all, d.number(), d.Uint64())
	}
	by := map[[allDigits]int]uint64{}
	for _, h := range all {
		var digits [allDigits]int
		again := uint64(0)
		for level := range allDigits {
			digits[level] = ident.Digit(h, level)
			again += uint64(digits[level]) << (4 * level)
		}
		if again != h {
			t.Fatalf("the digits %v of %x are those of %x", digits, h, again)
		}
		if was, there := by[digits]; there && was != h {
			t.Fatalf("%x and %x have the digits %v", was, h, digits)
		}
		by[digits] = h
	}
}

// P8.9.
func TestMixAndBack(t *testing.T) {
	d := newDice(90)
	all := numbers()
	for n := range uint64(3000) {
		all = append(all, n, -n, n<<32, n<<20, d.number(), d.Uint64())
	}
	for _, n := range all {
		if got := ident.Unmix(ident.Mix(n)); got != n {
			t.Fatalf("Unmix(Mix(%x)): %x", n, got)
		}
		if got := ident.Mix(ident.Unmix(n)); got != n {
			t.Fatalf("Mix(Unmix(%x)): %x", n, got)
		}
	}
}

// P8.9: one maker never tells an id twice.
func TestNoIdTwice(t *testing.T) {
	for _, from := range []uint64{0, 1<<32 - 5000, noCounter - 10000} {
		m := ident.NewMaker(3, from)
		seen := map[string]int{}
		for i := range 10000 {
			id := nextOf(t, m)
			if was, there := seen[id]; there {
				t.Fatalf("%q: the %d. and the %d.", id, was, i)
			}
			seen[id] = i
		}
	}
}

// P8.9: makers of one seed, beside one another, meet just where their counters do; and neither minds what the other does.
func TestMakersOfOneSeed(t *testing.T) {
	d := newDice(91)
	type maker struct {
		*ident.Maker
		counter uint64
	}
	var makers []maker
	for range 20 {
		counter := uint64(d.Intn(400))
		makers = append(makers, maker{ident.NewMaker(5, counter), counter})
	}
	by, met := map[string]uint64{}, 0
	for range 4000 {
		m := &makers[d.Intn(len(makers))]
		id := nextOf(t, m.Maker)
		if id != wordsMade(5, m.counter) {
			t.Fatalf("%q for the counter %d", id, m.counter)
		}
		if was, there := by[id]; there {
			met++
			if was != m.counter {
				t.Fatalf("%q for the counters %d and %d", id, was, m.counter)
			}
		}
		by[id] = m.counter
		m.counter++
	}
	if met < 100 || len(by) < 100 {
		t.Errorf("%d ids, %d of them met again: that says little", len(by), met)
	}
}

// P8.10: for every name and id, those of the greatest lengths too.
func TestKeysPartAgain(t *testing.T) {
	d := newDice(92)
	type pair struct{ in, id string }
	by := map[string]pair{}
	longest := 0
	for range 30000 {
		p := pair{d.name(), d.id()}
		if d.Intn(2) == 0 { // short ones, that may meet
			p = pair{d.text(1+d.Intn(2), "ab"), d.text(1+d.Intn(4), "a/b")}
		}
		if !ident.Name(p.in) || !ident.Id(p.id) {
			t.Fatalf("%q, %q: no name or no id", p.in, p.id)
		}
		key := ident.Join(p.in, p.id)
		if in, id, ok := ident.Part(key); in != p.in || id != p.id || !ok {
			t.Fatalf("Part(Join(%q, %q)): %q, %q, %t", p.in, p.id, in, id, ok)
		}
		if was, there := by[key]; there && was != p {
			t.Fatalf("%q is the key of %v and of %v", key, was, p)
		}
		by[key] = p
		longest = max(longest, len(key))
	}
	if longest != longestName+1+longestId {
		t.Errorf("the longest key has %d bytes", longest)
	}
}

// P8.10, at all pairs of few bytes.
func TestAllShortKeys(t *testing.T) {
	names, ids := shortTexts("az-.9", ident.Name), shortTexts("a/-", ident.Id)
	seen := map[string]int{}
	for _, in := range names {
		for _, id := range ids {
			key := ident.Join(in, id)
			seen[key]++
			if gotIn, gotId, ok := ident.Part(key); gotIn != in || gotId != id || !ok || seen[key] != 1 {
				t.Fatalf("Part(%q): %q, %q, %t, the %d. time", key, gotIn, gotId, ok, seen[key])
			}
		}
	}
	if len(names) != 2+2*5+2*25 || len(ids) != 3+9+27 {
		t.Errorf("%d names, %d ids", len(names), len(ids))
	}
}

// shortTexts are the texts of 1 to 3 of these bytes that are taken.
func shortTexts(of string, takes func(string) bool) []string {
	all := []string{""}
	var taken []string
	for from := 0; len(all[from]) < 3; from++ {
		for i := range len(of) {
			all = append(all, all[from]+of[i:i+1])
		}
	}
	for _, s := range all {
		if takes(s) {
			taken = append(taken, s)
		}
	}
	return taken
}

// All but Maker are pure functions: many may call them at once, and makers of their own, and are told what one alone is.
func TestManyAtOnce(t *testing.T) {
	type answers struct {
		sum     uint64
		stripe  int
		mixed   uint64
		in, id  string
		made    string
		why     api.Errno
		counter uint64
		ok      bool
	}
	ask := func(i int) answers {
		var a answers
		n := uint64(i) * 0x9e3779b97f4a7c15
		m := ident.NewMaker(n, uint64(i))
		a.made, a.why = m.Next()
		a.counter, a.ok = ident.Made(a.made, n)
		a.in, a.id, _ = ident.Part(ident.Join("c", a.made))
		a.sum, a.stripe, a.mixed = ident.Hash(a.made), ident.Stripe(a.made, 64), ident.Unmix(n)
		return a
	}
	var alone []answers
	for i := range 200 {
		alone = append(alone, ask(i))
	}
	var all sync.WaitGroup
	for range 8 {
		all.Go(func() {
			for i := range alone {
				if got := ask(i); got != alone[i] {
					t.Errorf("%d: %v; alone %v", i, got, alone[i])
				}
			}
		})
	}
	all.Wait()
}
