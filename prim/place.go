package prim

import (
	"docket/api"
	"docket/sched"
)

// place is where a thing stands: in which world, and what its steps bear.
type place struct {
	real     bool
	obj, num int
}

func (p *place) step(kind int) api.Step {
	return api.Step{Kind: kind, Obj: p.obj, Num: p.num}
}

// access is a step that is always ready; in the real world it is none.
func (p *place) access(c *sched.Client, kind int, do func()) {
	if p.real {
		do()
		return
	}
	c.Step(p.step(kind), nil, do)
}
