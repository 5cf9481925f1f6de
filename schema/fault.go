package schema

import (
	"slices"

	"docket/api"
)

// breach is what is panicked with: where a rule is broken, and the rule's word, on the way up past all schemas that are under way.
type breach struct {
	at   *place
	word string
}

// place is where a value stands: in the one at up, under step. That of the whole is nil.
type place struct {
	up   *place
	step string
}

func (p *place) path() []string {
	var steps []string
	for ; p != nil; p = p.up {
		steps = append(steps, p.step)
	}
	slices.Reverse(steps)
	return steps
}

// outer is a rule that is told as what is broken in the value's parts.
type outer interface {
	seek(v api.Value, at *place)
}

// seek gives up at the first rule that is broken.
func (l rules) seek(v api.Value, at *place) {
	for _, r := range l {
		if o, ok := r.rule.(outer); ok {
			o.seek(v, at)
		} else if !r.rule.keeps(v) {
			panic(breach{at: at, word: r.word})
		}
	}
}

// caught does what may give up, and tells where it did.
func caught(do func()) (b breach, broken bool) {
	defer func() {
		switch x := recover().(type) {
		case nil:
		case breach:
			b, broken = x, true
		default:
			panic(x) // nothing that gave up: an error of this package must not pass for an answer
		}
	}()
	do()
	return breach{}, false
}
