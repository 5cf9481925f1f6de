package clocks_test

import (
	"slices"
	"testing"

	"docket/api"
	"docket/clocks"
)

// The errors as the document numbers them.
const (
	isLong  = 1
	isArg   = 2
	isTrace = 110
)

type wrongTrace struct {
	l       trace
	clients int
	want    api.Errno
}

// wrongTraces are refused. But for what is wrong with them, the first two events of each are linked, and event 2
// is a StepGet that sees event 1.
func wrongTraces() map[string]wrongTrace {
	fair := trace{by(0, kindSet, x), by(0, kindSet, x), by(1, kindGet, x)}
	with := func(e api.Event) trace { return append(slices.Clone(fair), e) }
	long := append(slices.Clone(fair), slices.Repeat(trace{by(0, kindCall, 0)}, maxTrace-2)...)
	longAndWrong := slices.Clone(long)
	longAndWrong[3] = by(0, 0, 0)
	return map[string]wrongTrace{
		"-1 clients":                  {fair, -1, isArg},
		"17 clients":                  {fair, 17, isArg},
		"the least number of clients": {fair, -1 << 63, isArg},
		"the greatest":                {fair, 1<<63 - 1, isArg},
		"no clients":                  {fair, 0, isTrace},
		"one client too few":          {fair, 1, isTrace},
		"client -1":                   {with(by(-1, kindCall, 0)), 2, isTrace},
		"client 2 of 2":               {with(by(2, kindCall, 0)), 2, isTrace},
		"client 16 of 16":             {with(by(16, kindCall, 0)), 16, isTrace},
		"the least client":            {with(by(-1<<63, kindCall, 0)), 2, isTrace},
		"the greatest client":         {with(by(1<<63-1, kindCall, 0)), 2, isTrace},
		"kind 0":                      {with(by(0, 0, 0)), 2, isTrace},
		"kind 12":                     {with(by(0, 12, 0)), 2, isTrace},
		"kind -1":                     {with(by(0, -1, 0)), 2, isTrace},
		"the least kind":              {with(by(0, -1<<63, 0)), 2, isTrace},
		"the greatest kind":           {with(by(0, 1<<63-1, 0)), 2, isTrace},
		"kind 0 first":                {append(trace{by(0, 0, x)}, fair[1:]...), 2, isTrace},
		"too long":                    {long, 2, isLong},
		"too long, and kind 0":        {longAndWrong, 2, isLong},
		"too long, and no client":     {long, 0, isLong},
		"too long, and 17 clients":    {long, 17, isArg},
		"kind 0, and 17 clients":      {with(by(0, 0, 0)), 17, isArg},
		"client 17 of 17":             {with(by(17, kindCall, 0)), 17, isArg},
		"kind 12, and -1 clients":     {with(by(0, 12, 0)), -1, isArg},
	}
}

// P11.1, P11.3, P11.4: which traces are refused, and by which error where several apply.
func TestRefused(t *testing.T) {
	for what, wrong := range wrongTraces() {
		if c, e := clocks.Clocks(wrong.l, wrong.clients); c != nil || e != wrong.want {
			t.Errorf("%s: %d clocks, %d; want %d", what, len(c), e, wrong.want)
		}
		if r, e := clocks.Races(wrong.l, wrong.clients); r != nil || e != wrong.want {
			t.Errorf("%s: %d races, %d; want %d", what, len(r), e, wrong.want)
		}
		if i, there := clocks.Sees(wrong.l, wrong.clients, 2); i != 0 || there {
			t.Errorf("%s: sees %d, %v", what, i, there)
		}
	}
	if c, e := clocks.Clocks(nil, -1); c != nil || e != isArg {
		t.Errorf("no events of -1 clients: %v, %d", c, e)
	}
	if c, e := clocks.Clocks(nil, 17); c != nil || e != isArg {
		t.Errorf("no events of 17 clients: %v, %d", c, e)
	}
}

// P11.1: nothing else is asked of a trace: each client and kind at the edges is one, and locks need not be held.
func TestNotRefused(t *testing.T) {
	for clients := 1; clients <= maxClients; clients++ {
		for _, client := range []int{0, clients - 1} {
			for kind := kindLock; kind <= kindReturn; kind++ {
				l := slices.Repeat(trace{event(client, kind, -1<<63, 1<<63-1)}, 3)
				mustClocks(t, l, clients)
				wantRaces(t, "one client", l, clients)
			}
		}
	}
}
