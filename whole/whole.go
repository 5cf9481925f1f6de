// Package whole reckons with whole numbers of 64 bits, and tells where these do not suffice. It stands below the layers that reckon (update, pipe), so that all of them find the same bounds.
package whole

// Sum is a + b, and whether it fits: it rises just if b is above 0, unless it has wrapped round.
func Sum(a, b int64) (int64, bool) {
	c := a + b
	return c, (c > a) == (b > 0)
}

// Difference is a - b, and whether it fits: it falls just if b is above 0, unless it has wrapped round.
func Difference(a, b int64) (int64, bool) {
	c := a - b
	return c, (c < a) == (b > 0)
}

// Product is a * b, and whether it fits: the sign is asked too, as dividing the least number by -1 wraps round itself.
func Product(a, b int64) (int64, bool) {
	c := a * b
	if a == 0 || b == 0 {
		return c, true
	}
	return c, (c < 0) == ((a < 0) != (b < 0)) && c/b == a
}
