package clocks_test

import (
	"docket/api"
)

// The chapter's words, written plainly: links by their four lines, ahead by ways over links.

func oneThing(i, j api.Event) bool {
	return i.Step.Obj == j.Step.Obj && i.Step.Num == j.Step.Num
}

func isOneOf(e api.Event, kinds ...int) bool {
	for _, kind := range kinds {
		if e.Step.Kind == kind {
			return true
		}
	}
	return false
}

func storeBetween(l trace, i, j int) bool {
	for _, e := range l[i+1 : j] {
		if oneThing(e, l[i]) && isOneOf(e, kindStore) {
			return true
		}
	}
	return false
}

// linked is of numbers i below j.
func linked(l trace, i, j int) bool {
	if l[i].Client == l[j].Client {
		return true
	}
	if !oneThing(l[i], l[j]) {
		return false
	}
	if isOneOf(l[i], kindUnlock) && isOneOf(l[j], kindLock, kindRLock) {
		return true
	}
	if isOneOf(l[i], kindRUnlock) && isOneOf(l[j], kindLock) {
		return true
	}
	return isOneOf(l[i], kindStore, kindAdd) && isOneOf(l[j], kindLoad, kindAdd) && !storeBetween(l, i, j)
}

// words is what the chapter says of a trace that may be.
type words struct {
	l     trace
	ahead [][]bool // of j and of i: whether i is ahead of j
}

func newWords(l trace) *words {
	w := &words{l: l}
	for j := range l {
		row := make([]bool, len(l))
		for i := range j {
			if !linked(l, i, j) {
				continue
			}
			row[i] = true
			for k, there := range w.ahead[i] {
				row[k] = row[k] || there
			}
		}
		w.ahead = append(w.ahead, row)
	}
	return w
}

func (w *words) clocks(clients int) [][]int {
	var all [][]int
	for j := range w.l {
		c := make([]int, clients)
		for i, e := range w.l {
			if w.ahead[j][i] || i == j {
				c[e.Client]++
			}
		}
		all = append(all, c)
	}
	return all
}

// race is of numbers i below j.
func (w *words) race(i, j int) bool {
	p, q := w.l[i], w.l[j]
	use := isOneOf(p, kindGet, kindSet) && isOneOf(q, kindGet, kindSet)
	return use && oneThing(p, q) && p.Client != q.Client && (isOneOf(p, kindSet) || isOneOf(q, kindSet)) && !w.ahead[j][i]
}

func (w *words) races() []race {
	var all []race
	for j := range w.l {
		for i := range j {
			if w.race(i, j) {
				all = append(all, race{First: i, Second: j})
				break
			}
		}
	}
	return all
}

func (w *words) sees(j int) (int, bool) {
	last, there := 0, false
	if !isOneOf(w.l[j], kindGet) {
		return last, there
	}
	for i := range j {
		if isOneOf(w.l[i], kindSet) && oneThing(w.l[i], w.l[j]) {
			last, there = i, true
		}
	}
	return last, there
}
