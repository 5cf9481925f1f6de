package update

import (
	"docket/api"
	"docket/order"
)

// valueSet holds values by their bytes, which are the same just if the values are Equal: so one is found among thousands at once.
type valueSet map[string]struct{}

func setOf(items []api.Value) valueSet {
	s := make(valueSet, len(items))
	for _, item := range items {
		s.add(item)
	}
	return s
}

func (s valueSet) has(v api.Value) bool {
	key, _ := order.Bytes(v)
	_, there := s[string(key)]
	return there
}

// add tells whether the value is new.
func (s valueSet) add(v api.Value) bool {
	had := len(s)
	key, _ := order.Bytes(v)
	s[string(key)] = struct{}{}
	return len(s) > had
}
