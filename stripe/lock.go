package stripe

import (
	"docket/prim"
	"docket/sched"
)

// stripe is one of a table: its bucket is got and set under its lock alone.
type stripe struct {
	num    int
	lock   *prim.RWMutex
	bucket *prim.Cell[bucket]
}

// share takes the lock beside others that look for entries, and tells what gives it back.
func (s *stripe) share(c *sched.Client) func(*sched.Client) {
	s.lock.RLock(c)
	return s.lock.RUnlock
}

// hold takes the lock alone, and tells what gives it back.
func (s *stripe) hold(c *sched.Client) func(*sched.Client) {
	s.lock.Lock(c)
	return s.lock.Unlock
}

// use is the key's entry, with one user more; nil, if there is none. The user is counted ahead of the lock's end: so nobody takes the entry out between.
func (s *stripe) use(c *sched.Client, key string) *Entry {
	defer s.share(c)(c)
	return s.bucket.Get(c).use(c, key)
}

// remove takes out an entry that was left by its last user, as it seemed: meanwhile somebody may use it again, or have taken it out, and made another one of its key.
func (s *stripe) remove(c *sched.Client, e *Entry) {
	defer s.hold(c)(c)
	b := s.bucket.Get(c)
	if find(b.slots, e.key) != e {
		return
	}
	if e.users.Read(c) == 0 {
		s.bucket.Set(c, b.without(e))
	}
}
