package pipe

import (
	"docket/api"
	"docket/jsonval"
)

// fault is what is panicked with: an error's number, on its way up past all stages and expressions that are under way.
type fault api.Errno

func giveUp(e api.Errno) { panic(fault(e)) }

func must(e api.Errno) {
	if e != api.OK {
		giveUp(e)
	}
}

// mustHaveRoom is for a list that is to have n values.
func mustHaveRoom(n int) {
	if n > api.MaxMade {
		giveUp(api.ErrMuch)
	}
}

// mustNotBeDeep is for what was made of values: nothing else can be wrong with it. Depth is asked first, as it costs less; below MaxDepth no list or object stands too deep either.
func mustNotBeDeep(v api.Value) {
	if jsonval.Depth(v) >= api.MaxDepth {
		must(jsonval.Check(v))
	}
}

// caught does what may give up, and tells why it did.
func caught(do func()) (why api.Errno) {
	defer func() {
		switch x := recover().(type) {
		case nil:
		case fault:
			why = api.Errno(x)
		default:
			panic(x) // nothing that gave up: an error of this package must not pass for an answer
		}
	}()
	do()
	return api.OK
}
