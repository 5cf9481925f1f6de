package docstore

import (
	"docket/api"
	"docket/prim"
)

// Aged is a store whose newest root has that stamp, as one has it of which many states were published.
func Aged(w *prim.World, c api.StoreConfig, stamp int64) *Store {
	s, _ := New(w, c)
	next := s.keeper.Root(nil)
	next.stamp = stamp
	s.keeper.Publish(nil, next, nil)
	return s
}

// Play is Run on a store that is there.
func (s *Store) Play(calls [][]string, script []int) (api.Played, api.Errno) {
	return s.play(calls, script)
}

// Live is how many nodes are live.
func (s *Store) Live() int { return s.nodes.Live() }
