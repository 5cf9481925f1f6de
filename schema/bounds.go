package schema

import (
	"unicode/utf8"

	"docket/api"
)

// counted is what a rule of numbers counts.
type counted interface {
	// count is false of a value in which there is nothing of that kind to count.
	count(v api.Value) (int64, bool)
}

type (
	itemsOf      struct{}
	charactersOf struct{}
	intOf        struct{}
)

func (itemsOf) count(v api.Value) (int64, bool) { return int64(len(v.Items)), v.Kind == api.List }

func (charactersOf) count(v api.Value) (int64, bool) {
	return int64(utf8.RuneCountInString(v.Text)), v.Kind == api.Text
}

func (intOf) count(v api.Value) (int64, bool) { return v.Int, v.Kind == api.Int }

// bound is a rule of numbers.
type bound[C counted] struct {
	limit int64
	suits func(n, limit int64) bool
}

func (b bound[C]) keeps(v api.Value) bool {
	var what C
	n, some := what.count(v)
	return !some || b.suits(n, b.limit)
}

func atLeast(n, limit int64) bool { return n >= limit }

func atMost(n, limit int64) bool { return n <= limit }

func divided(n, limit int64) bool { return n%limit == 0 }
