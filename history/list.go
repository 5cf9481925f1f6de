package history

import (
	"cmp"
	"slices"

	"docket/api"
)

// list are calls, such as may be a history; a call is known by its number, its place in the list.
type list []api.Call

// lacks is whether that is the number of none.
func (h list) lacks(n int) bool { return n < 0 || n >= len(h) }

// over is whether a call has ended ahead of that moment.
func (h list) over(n, moment int) bool { return h[n].Ended >= 0 && h[n].Ended < moment }

// isBehind is whether the call n began when the other one had ended.
func (h list) isBehind(n, other int) bool { return !h.lacks(n) && h.over(other, h[n].Began) }

// mayBe is whether the calls are a history.
func (h list) mayBe() bool {
	if len(h) > api.MaxHistory {
		return false
	}
	for _, x := range h {
		if !isCall(x) {
			return false
		}
	}
	return h.unlike() && h.oneByOne()
}

// isCall is whether the moments of a call are such, and in their order.
func isCall(x api.Call) bool {
	if x.Began < 0 || x.Ended < -1 || x.Point < -1 {
		return false
	}
	if x.Ended >= 0 && x.Ended <= x.Began {
		return false
	}
	return x.Point < 0 || x.Point > x.Began && (x.Ended < 0 || x.Point < x.Ended)
}

// unlike is whether no two moments of all calls are alike.
func (h list) unlike() bool {
	var moments []int
	for _, x := range h {
		for _, m := range []int{x.Began, x.Point, x.Ended} {
			if m >= 0 {
				moments = append(moments, m)
			}
		}
	}
	slices.Sort(moments)
	return len(slices.Compact(moments)) == len(moments)
}

// oneByOne is whether no client has two calls under way at one time. Behind a call of its own it is enough to look at the next one: that ends behind where it began.
func (h list) oneByOne() bool {
	numbers := h.numbers()
	slices.SortFunc(numbers, h.byClient)
	for k := 1; k < len(numbers); k++ {
		was, now := numbers[k-1], numbers[k]
		if h[was].Client == h[now].Client && !h.isBehind(now, was) {
			return false
		}
	}
	return true
}

func (h list) numbers() []int {
	l := make([]int, len(h))
	for i := range l {
		l[i] = i
	}
	return l
}

func (h list) byClient(a, b int) int {
	return cmp.Or(cmp.Compare(h[a].Client, h[b].Client), cmp.Compare(h[a].Began, h[b].Began))
}

// counting are the calls that count, in their order.
func (h list) counting() []int {
	l := slices.DeleteFunc(h.numbers(), h.idle)
	slices.SortFunc(l, h.byMoment)
	return l
}

// idle is whether nobody can tell that the call was made: it has no point, and pends.
func (h list) idle(n int) bool { return h[n].Point < 0 && h[n].Ended < 0 }

func (h list) byMoment(a, b int) int { return cmp.Compare(h.moment(a), h.moment(b)) }

// moment is when a call counts.
func (h list) moment(n int) int {
	if h[n].Point >= 0 {
		return h[n].Point
	}
	return h[n].Began
}
