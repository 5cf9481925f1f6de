package ident_test

import (
	"fmt"
	"math/big"
	"regexp"
	"strings"
)

// What chapter 8 says, written as plainly as may be, in numbers without a bound that are cut to 64 bits where the chapter says modulo: the tests hold the program against it.

var (
	wordsId   = regexp.MustCompile(`^[!-~]{1,64}$`)
	wordsName = regexp.MustCompile(`^[a-z][a-z0-9._-]{0,31}$`)
)

func wordsPart(key string) (string, string, bool) {
	for i := range key {
		if key[i] == '/' {
			in, id := key[:i], key[i+1:]
			if wordsName.MatchString(in) && wordsId.MatchString(id) {
				return in, id, true
			}
			return "", "", false
		}
	}
	return "", "", false
}

func large(n uint64) *big.Int { return new(big.Int).SetUint64(n) }

// power is 2^n.
func power(n uint) *big.Int { return new(big.Int).Lsh(big.NewInt(1), n) }

func modulo(n *big.Int) *big.Int { return new(big.Int).Mod(n, power(64)) }

func wordsHashOn(h uint64, s string) uint64 {
	sum := large(h)
	for _, b := range []byte(s) {
		sum.Xor(sum, big.NewInt(int64(b)))
		sum = modulo(sum.Mul(sum, large(1099511628211)))
	}
	return sum.Uint64()
}

func wordsStripe(key string, n int) int {
	if n < 1 || n > 64 {
		return 0
	}
	sum := large(wordsHashOn(14695981039346656037, key))
	return int(sum.Mod(sum, big.NewInt(int64(n))).Int64())
}

// wordsDigit is the digit of a number that is written down, counted from its end.
func wordsDigit(h uint64, level int) int {
	if level < 0 || level > 15 {
		return 0
	}
	written := fmt.Sprintf("%016x", h)
	return strings.Index("0123456789abcdef", written[15-level:][:1])
}

func wordsMix(n uint64) uint64 {
	x := modulo(new(big.Int).Add(large(n), large(11400714819323198485)))
	x = modulo(new(big.Int).Mul(withItself(x, 30), large(13787848793156543929)))
	x = modulo(new(big.Int).Mul(withItself(x, 27), large(10723151780598845931)))
	return withItself(x, 31).Uint64()
}

// withItself is x exclusive-or x / 2^n.
func withItself(x *big.Int, n uint) *big.Int {
	return new(big.Int).Xor(x, new(big.Int).Div(x, power(n)))
}

func wordsMade(seed, counter uint64) string {
	return fmt.Sprintf("g%016x", wordsMix(wordsMix(seed)^counter))
}
