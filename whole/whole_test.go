package whole_test

import (
	"math"
	"math/big"
	"math/rand"
	"testing"

	"docket/whole"
)

// edges are numbers near which 64 bits, or the halves of them, end.
func edges() []int64 {
	var all []int64
	for _, n := range []int64{0, 7, 1 << 31, 1 << 32, 3037000499, 3037000500, 1 << 61, 1 << 62, math.MaxInt64, math.MinInt64} {
		for near := int64(-2); near <= 2; near++ {
			all = append(all, n+near, -n+near) // wrapping round is as good
		}
	}
	return all
}

type reckoning struct {
	name  string
	ours  func(a, b int64) (int64, bool)
	words func(z, a, b *big.Int) *big.Int
}

// Each is what it is in numbers without a bound, if that is within 64 bits; and tells else that it is not.
func TestReckoning(t *testing.T) {
	d := rand.New(rand.NewSource(70))
	all := edges()
	for range 60 {
		all = append(all, int64(d.Uint64())>>d.Intn(64))
	}
	for _, r := range []reckoning{{"Sum", whole.Sum, (*big.Int).Add}, {"Difference", whole.Difference, (*big.Int).Sub}, {"Product", whole.Product, (*big.Int).Mul}} {
		apart := 0
		for _, a := range all {
			for _, b := range all {
				c, fits := r.ours(a, b)
				want := r.words(new(big.Int), big.NewInt(a), big.NewInt(b))
				if fits != want.IsInt64() || fits && c != want.Int64() {
					t.Fatalf("%s(%d, %d): %d, %t; want %d", r.name, a, b, c, fits, want)
				}
				if !fits {
					apart++
				}
			}
		}
		if apart < 1000 {
			t.Errorf("%s: %d beyond 64 bits: that says little", r.name, apart)
		}
	}
}
