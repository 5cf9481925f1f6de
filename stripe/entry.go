package stripe

import (
	"docket/prim"
	"docket/sched"
)

// Entry is a key's latch, as long as somebody uses it.
type Entry struct {
	key   string
	num   int
	latch *prim.Mutex
	users *prim.Counter
}

// Lock: P15.4.
func (e *Entry) Lock(c *sched.Client) {
	if e != nil {
		e.latch.Lock(c)
	}
}

// Unlock: P15.4.
func (e *Entry) Unlock(c *sched.Client) {
	if e != nil {
		e.latch.Unlock(c)
	}
}

// Key: P15.5.
func (e *Entry) Key() string {
	if e == nil {
		return ""
	}
	return e.key
}

// Num: P15.5.
func (e *Entry) Num() int {
	if e == nil {
		return -1
	}
	return e.num
}
