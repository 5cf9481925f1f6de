package prim

import (
	"docket/api"
	"docket/sched"
)

// scriptedLock needs no lock of its own: one client at a time goes on.
type scriptedLock struct {
	place
	held    bool
	readers int // with a nil client there may be some beside one that holds it
}

func (l *scriptedLock) notHeld() bool { return !l.held }

func (l *scriptedLock) free() bool { return !l.held && l.readers == 0 }

func (l *scriptedLock) hold(c *sched.Client) {
	c.Step(l.step(api.StepLock), l.free, func() { l.held = true })
}

func (l *scriptedLock) release(c *sched.Client) {
	c.Step(l.step(api.StepUnlock), nil, func() { l.held = false })
}

func (l *scriptedLock) share(c *sched.Client) {
	c.Step(l.step(api.StepRLock), l.notHeld, func() { l.readers++ })
}

func (l *scriptedLock) unshare(c *sched.Client) {
	c.Step(l.step(api.StepRUnlock), nil, func() { l.readers = max(l.readers-1, 0) })
}
