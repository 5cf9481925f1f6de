package heap

// block is how many numbers lie in one list, so that a Free does not copy all of a great pool.
const block = 32

// pool is the numbers of the pooled nodes, in the order in which they were freed. It is never written: another one is made of it, so that whoever has got it has it as it was.
type pool struct {
	count int   // of all of them
	last  []int // those that were freed last: some, if there are any at all
	rest  *pool // those ahead of them
}

// with is the pool with a number behind the others.
func (p pool) with(num int) pool {
	n := len(p.last)
	if n == block {
		return pool{count: p.count + 1, last: []int{num}, rest: &p}
	}
	last := make([]int, n+1)
	copy(last, p.last)
	last[n] = num
	return pool{count: p.count + 1, last: last, rest: p.rest}
}

// taken is the last number, and the pool without it. There must be one. It is cut off from the room behind the others too: there whoever has got the pool as it was still finds it.
func (p pool) taken() (int, pool) {
	n := len(p.last) - 1
	num := p.last[n]
	if n == 0 && p.rest != nil {
		return num, *p.rest
	}
	return num, pool{count: p.count - 1, last: p.last[:n:n], rest: p.rest}
}
