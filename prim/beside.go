package prim

import "sync"

// Beside: P10.3.
func Beside(bodies []func()) {
	var all sync.WaitGroup
	for _, body := range bodies {
		if body == nil {
			continue
		}
		all.Add(1)
		go func() {
			defer all.Done()
			defer func() { recover() }()
			body()
		}()
	}
	all.Wait()
}
