package model

// At is a state with what s has, at another stamp: no test steps to the last one.
func At(s *State, stamp int64) *State { return &State{stamp, s.kept} }

// Counted is a state with what s has, where so many ids were made for a client.
func Counted(s *State, number int, made int64) *State {
	c := s.clients[number]
	c.made = made
	return s.beside(number, c)
}

// MadeFor is how many ids were made for a client.
func MadeFor(s *State, number int) int64 { return s.clients[number].made }

// Piles is how many collections something is kept for.
func Piles(s *State) int { return len(s.docs) }
