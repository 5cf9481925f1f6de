package ident

// round is a part of Mix: x + plus, exclusive-or itself cut by so many bits, times an odd number. back is the number that times is undone by: their product is 1, modulo 2^64.
type round struct {
	plus, times, back uint64
	cut               uint
}

var rounds = [3]round{
	{plus: 11400714819323198485, cut: 30, times: 13787848793156543929, back: 10871156337175269513},
	{cut: 27, times: 10723151780598845931, back: 3573116690164977347},
	{cut: 31, times: 1, back: 1},
}

// Mix: P8.5.
func Mix(n uint64) uint64 {
	for _, r := range rounds {
		n += r.plus
		n = (n ^ n>>r.cut) * r.times
	}
	return n
}

// Unmix: P8.5.
func Unmix(n uint64) uint64 {
	for i := len(rounds) - 1; i >= 0; i-- {
		r := rounds[i]
		n = uncut(n*r.back, r.cut) - r.plus
	}
	return n
}

// uncut is the number that was exclusive-or'd with itself cut by so many bits: its highest bits are there as they were, and each lot of them tells the next one.
func uncut(n uint64, cut uint) uint64 {
	was := n
	for by := cut; by < 64; by += cut {
		was ^= n >> by
	}
	return was
}
