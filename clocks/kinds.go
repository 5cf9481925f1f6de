package clocks

import "docket/api"

// marks are the clocks that steps left at a thing, for those behind them that are linked to them.
type marks struct {
	unlocked  clock
	runlocked clock
	stored    clock
}

// A stepKind is what matters here of a kind of step.
type stepKind struct {
	// passes hands clocks on between the thing and the client, or is nil, if the kind links nothing.
	passes func(at *marks, now *clock)
	reads  bool
	writes bool
}

// kindsOfSteps has each kind at its number.
func kindsOfSteps() [api.StepReturn + 1]stepKind {
	return [api.StepReturn + 1]stepKind{
		api.StepLock:    {passes: lock},
		api.StepUnlock:  {passes: unlock},
		api.StepRLock:   {passes: rlock},
		api.StepRUnlock: {passes: runlock},
		api.StepLoad:    {passes: load},
		api.StepStore:   {passes: store},
		api.StepAdd:     {passes: add},
		api.StepGet:     {reads: true},
		api.StepSet:     {writes: true},
		api.StepCall:    {},
		api.StepReturn:  {},
	}
}

func lock(at *marks, now *clock) {
	now.join(at.unlocked)
	now.join(at.runlocked)
}

func unlock(at *marks, now *clock) {
	at.unlocked.join(*now)
}

func rlock(at *marks, now *clock) {
	now.join(at.unlocked)
}

func runlock(at *marks, now *clock) {
	at.runlocked.join(*now)
}

func load(at *marks, now *clock) {
	now.join(at.stored)
}

// store forgets what was stored ahead of it: who loads behind it observes this store alone.
func store(at *marks, now *clock) {
	at.stored = *now
}

// add keeps what was stored ahead of it, for it has observed that.
func add(at *marks, now *clock) {
	now.join(at.stored)
	at.stored = *now
}
