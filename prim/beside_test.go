package prim_test

import (
	"bytes"
	"errors"
	"fmt"
	"runtime"
	"sync/atomic"
	"testing"
	"time"

	"docket/prim"
)

// P10.3: all run beside one another: each waits for all the others.
func TestBesideOneAnother(t *testing.T) {
	for _, n := range []int{1, 2, 16, 1000} {
		come, open := make(chan int), make(chan struct{})
		var ended atomic.Int64
		var bodies []func()
		for i := range n {
			bodies = append(bodies, func() {
				come <- i
				<-open
				ended.Add(1)
			})
		}
		done := begin(func() { prim.Beside(bodies) })
		seen := make([]int, n)
		mustEnd(t, fmt.Sprint(n, " bodies"), begin(func() {
			for range n {
				seen[<-come]++
			}
		}))
		for i, times := range seen {
			if times != 1 {
				t.Errorf("body %d came %d times", i, times)
			}
		}
		if hasCome(done) || ended.Load() != 0 {
			t.Error("it has answered, or a body has ended, too soon")
		}
		close(open)
		mustEnd(t, fmt.Sprint(n, " bodies"), done)
		if int(ended.Load()) != n {
			t.Errorf("%d of %d ended", ended.Load(), n)
		}
	}
}

// P10.3: each in a goroutine of its own.
func TestGoroutines(t *testing.T) {
	const n = 50
	var names [n + 1]string
	var bodies []func()
	for i := range n {
		bodies = append(bodies, func() { names[i] = goroutine() })
	}
	prim.Beside(bodies)
	names[n] = goroutine()
	seen := map[string]int{}
	for _, name := range names {
		seen[name]++
	}
	if len(seen) != n+1 {
		t.Errorf("%d goroutines", len(seen))
	}
}

// goroutine is how the library names the one that asks.
func goroutine() string {
	text := make([]byte, 64)
	text = text[:runtime.Stack(text, false)]
	name, _, _ := bytes.Cut(text, []byte(" ["))
	return string(name)
}

// P10.3: it answers when all have ended, not one moment sooner: what they wrote is there, without a lock.
func TestAnswersBehindAll(t *testing.T) {
	for range 300 {
		var wrote [10]int
		var bodies []func()
		for i := range wrote {
			bodies = append(bodies, func() {
				for range i {
					runtime.Gosched()
				}
				defer func() {
					runtime.Gosched()
					wrote[i]++
				}()
				if i%3 == 0 {
					panic(i)
				}
			})
		}
		prim.Beside(bodies)
		if wrote != [10]int{1, 1, 1, 1, 1, 1, 1, 1, 1, 1} {
			t.Fatalf("%v", wrote)
		}
	}
}

// P10.3: a panic is caught, whatever it is of; the others go on.
func TestPanicsAreCaught(t *testing.T) {
	var none []int
	var nothing map[string]int
	for name, body := range map[string]func(){
		"text":                 func() { panic("x") },
		"error":                func() { panic(errors.New("e")) },
		"nil":                  func() { panic(nil) },
		"number":               func() { panic(7) },
		"index":                func() { none[len(nothing)]++ },
		"map":                  func() { nothing["x"] = 1 },
		"nil pointer":          func() { var p *int; *p = 1 },
		"of a deferred one":    func() { defer func() { panic(2) }(); panic(1) },
		"thrown anew":          func() { defer func() { panic(recover()) }(); panic(1) },
		"leaves its goroutine": runtime.Goexit,
	} {
		var ended atomic.Int64
		other := func() { ended.Add(1) }
		mustEnd(t, name, begin(func() { prim.Beside([]func(){other, body, other, body, body, other}) }))
		if ended.Load() != 3 {
			t.Errorf("%s: %d of 3 others ended", name, ended.Load())
		}
		mustEnd(t, name, begin(func() { prim.Beside([]func(){body}) }))
	}
}

// P10.3: a nil body is passed over.
func TestNilBodies(t *testing.T) {
	prim.Beside(nil)
	prim.Beside([]func(){})
	prim.Beside([]func(){nil})
	prim.Beside(make([]func(), 100))
	var ended atomic.Int64
	body := func() { ended.Add(1) }
	prim.Beside([]func(){nil, body, nil, nil, body})
	if ended.Load() != 2 {
		t.Errorf("%d of 2 ended", ended.Load())
	}
}

// P10.3: within a body others may run beside one another.
func TestBesideWithin(t *testing.T) {
	var ended atomic.Int64
	leaf := func() { ended.Add(1) }
	branch := func() { prim.Beside([]func(){leaf, leaf, nil, leaf}) }
	prim.Beside([]func(){branch, leaf, branch, branch})
	if ended.Load() != 10 {
		t.Errorf("%d of 10 ended", ended.Load())
	}
}

// Rule 3: the list that is handed in is not changed, nor is its spare room run.
func TestBodiesAreNotChanged(t *testing.T) {
	ran := [4]int{}
	bodies := []func(){func() { ran[0]++ }, nil, func() { ran[2]++ }, func() { ran[3]++ }}
	prim.Beside(bodies[:3])
	if ran != [4]int{1, 0, 1, 0} || bodies[0] == nil || bodies[1] != nil || bodies[2] == nil || bodies[3] == nil {
		t.Errorf("%v", ran)
	}
}

// All goroutines have ended when Beside answers.
func TestAllHaveEnded(t *testing.T) {
	before := runtime.NumGoroutine()
	for range 200 {
		prim.Beside([]func(){func() { panic(1) }, runtime.Gosched, nil, runtime.Goexit})
	}
	// A goroutine that has told that it ended may be there for a moment more.
	for i := 0; runtime.NumGoroutine() > before; i++ {
		if i == 1000 {
			t.Fatalf("%d goroutines, %d ahead", runtime.NumGoroutine(), before)
		}
		time.Sleep(time.Millisecond)
	}
}
