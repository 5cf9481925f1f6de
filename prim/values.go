package prim

import (
	"sync/atomic"

	"docket/api"
	"docket/sched"
)

// Counter is a number that is added to.
type Counter struct {
	place
	n atomic.Int64
}

// Atomic is a value that is loaded and stored as a whole.
type Atomic[T any] struct {
	place
	v atomic.Pointer[T] // never nil, and what it points to is never written
}

// Cell is a plain place.
type Cell[T any] struct {
	place
	v T
}

// Add: P10.1.
func (x *Counter) Add(c *sched.Client, d int64) int64 {
	var n int64
	if x != nil {
		x.access(c, api.StepAdd, func() { n = x.n.Add(d) })
	}
	return n
}

// Read: P10.1.
func (x *Counter) Read(c *sched.Client) int64 {
	var n int64
	if x != nil {
		x.access(c, api.StepLoad, func() { n = x.n.Load() })
	}
	return n
}

// Load: P10.1.
func (x *Atomic[T]) Load(c *sched.Client) T {
	var v T
	if x != nil {
		x.access(c, api.StepLoad, func() { v = *x.v.Load() })
	}
	return v
}

// Store: P10.1.
func (x *Atomic[T]) Store(c *sched.Client, v T) {
	if x != nil {
		x.access(c, api.StepStore, func() { x.v.Store(&v) })
	}
}

// Get: P10.1.
func (x *Cell[T]) Get(c *sched.Client) T {
	var v T
	if x != nil {
		x.access(c, api.StepGet, func() { v = x.v })
	}
	return v
}

// Set: P10.1.
func (x *Cell[T]) Set(c *sched.Client, v T) {
	if x != nil {
		x.access(c, api.StepSet, func() { x.v = v })
	}
}
