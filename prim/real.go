package prim

import (
	"sync"
	"sync/atomic"

	"docket/sched"
)

// realLock is for goroutines that run beside one another. The library's RWMutex would not do: it keeps readers out while somebody waits to hold it, though it is not held; and its locks end the program when what is not held is unlocked.
type realLock struct {
	room    sync.Mutex   // taken by who holds the lock, or once for all readers
	held    atomic.Bool  // somebody holds the lock
	readers atomic.Int64 // rises from 0 only with the room, and leaves it when it is 0 again
	first   sync.Mutex   // taken by the reader that takes the room: the others wait behind it, and join it
}

func (l *realLock) hold(*sched.Client) {
	l.room.Lock()
	l.held.Store(true)
}

func (l *realLock) release(*sched.Client) {
	if l.held.CompareAndSwap(true, false) {
		l.room.Unlock()
	}
}

func (l *realLock) share(*sched.Client) {
	if _, joined := l.count(1); joined {
		return
	}
	l.first.Lock()
	defer l.first.Unlock()
	if _, joined := l.count(1); joined {
		return
	}
	l.room.Lock()
	l.readers.Store(1)
}

func (l *realLock) unshare(*sched.Client) {
	if left, shared := l.count(-1); shared && left == 0 {
		l.room.Unlock()
	}
}

// count makes the readers more or less, if there are some, and tells how many there are then.
func (l *realLock) count(by int64) (int64, bool) {
	for n := l.readers.Load(); n > 0; n = l.readers.Load() {
		if l.readers.CompareAndSwap(n, n+by) {
			return n + by, true
		}
	}
	return 0, false
}
