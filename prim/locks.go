package prim

import "docket/sched"

// lock stands behind Mutex and RWMutex, with a kind of its own for each world. A mutex is one that is never shared.
type lock interface {
	hold(c *sched.Client)
	release(c *sched.Client)
	share(c *sched.Client)
	unshare(c *sched.Client)
}

// Mutex is a lock.
type Mutex struct{ lock lock }

// RWMutex is a lock that readers share.
type RWMutex struct{ lock lock }

// Lock: P10.1.
func (m *Mutex) Lock(c *sched.Client) {
	if m != nil {
		m.lock.hold(c)
	}
}

// Unlock: P10.1.
func (m *Mutex) Unlock(c *sched.Client) {
	if m != nil {
		m.lock.release(c)
	}
}

// Lock: P10.1.
func (m *RWMutex) Lock(c *sched.Client) {
	if m != nil {
		m.lock.hold(c)
	}
}

// Unlock: P10.1.
func (m *RWMutex) Unlock(c *sched.Client) {
	if m != nil {
		m.lock.release(c)
	}
}

// RLock: P10.1.
func (m *RWMutex) RLock(c *sched.Client) {
	if m != nil {
		m.lock.share(c)
	}
}

// RUnlock: P10.1.
func (m *RWMutex) RUnlock(c *sched.Client) {
	if m != nil {
		m.lock.unshare(c)
	}
}
