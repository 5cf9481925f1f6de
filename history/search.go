package history

import (
	"docket/api"
	"docket/model"
	"docket/request"
)

// follow is the state behind a call, and whether the call was told what it should have been; to one that pends nothing was told. Where there was no room for a change, the model has no say in that.
func follow(s *model.State, x api.Call) (*model.State, bool) {
	if x.Reply == request.Bad(api.ErrNodes, -1) {
		return s.Skip(), true
	}
	next, reply := s.Step(x.Client, x.Raw)
	return next, x.Ended < 0 || reply == x.Reply
}

// placed is which calls are in the order so far.
type placed [api.MaxSearch]bool

func (p placed) with(n int) placed {
	p[n] = true
	return p
}

// search is the first order that the calls may have had, from a state on, and whether there is one.
func (h list) search(s *model.State) ([]int, bool) {
	var order []int
	var goOn func(s *model.State, p placed) bool
	goOn = func(s *model.State, p placed) bool {
		if h.complete(p) {
			return true
		}
		for n, x := range h {
			if p[n] || !h.mayFollow(p, n) {
				continue
			}
			next, right := follow(s, x)
			if !right {
				continue
			}
			order = append(order, n)
			if goOn(next, p.with(n)) {
				return true
			}
			order = order[:len(order)-1]
		}
		return false
	}
	if !goOn(s, placed{}) {
		return nil, false
	}
	return order, true
}

// complete is whether no call is missing that has ended.
func (h list) complete(p placed) bool {
	for n, x := range h {
		if !p[n] && x.Ended >= 0 {
			return false
		}
	}
	return true
}

// mayFollow is whether no call that is still to come had ended before this one began.
func (h list) mayFollow(p placed, n int) bool {
	for other := range h {
		if !p[other] && h.isBehind(n, other) {
			return false
		}
	}
	return true
}
