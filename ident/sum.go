package ident

import "docket/api"

const (
	sumBegins = 14695981039346656037
	sumTimes  = 1099511628211
)

// The bits of a digit, from the lowest on; the first number that needs one more is the base, behind as many bits as a digit has.
const (
	ones, _ = 1 << iota, iota
	twos, _
	fours, _
	eights, _
	base, bitsOfDigit
)

const allOfDigit = ones | twos | fours | eights

// HashOn: P8.3.
func HashOn(h uint64, s string) uint64 {
	for i := range len(s) {
		h = (h ^ uint64(s[i])) * sumTimes
	}
	return h
}

// Hash: P8.3.
func Hash(s string) uint64 {
	return HashOn(sumBegins, s)
}

// Stripe: P8.4.
func Stripe(key string, n int) int {
	if n < 1 || n > api.MaxStripes {
		return 0
	}
	return int(Hash(key) % uint64(n))
}

// Digit: P8.4.
func Digit(h uint64, level int) int {
	if level < 0 || level >= api.Digits {
		return 0
	}
	return int(h >> (level * bitsOfDigit) & allOfDigit)
}
