package update

import (
	"docket/api"
	"docket/dotpath"
	"docket/filter"
	"docket/jsonval"
)

// verb is a row of the table of 5.1: which operands it takes, and the term that it makes of one that it took.
type verb struct {
	takes func(operand api.Value) bool
	term  func(own path, operand api.Value) (term, error)
}

// The verbs by their numbers in the table.
const (
	verbSet = iota
	verbSetOnInsert
	verbUnset
	verbInc
	verbMul
	verbMin
	verbMax
	verbRename
	verbPush
	verbAddToSet
	verbPop
	verbPull
	verbPullAll
)

func verbs() []verb {
	return []verb{
		verbSet:         {takes: isAnything, term: atPlaces(set)},
		verbSetOnInsert: {takes: isAnything, term: setFresh},
		verbUnset:       {takes: isAnything, term: atPlaces(unset)},
		verbInc:         {takes: isInt, term: atPlaces(add)},
		verbMul:         {takes: isInt, term: atPlaces(multiply)},
		verbMin:         {takes: isAnything, term: atPlaces(setIf(func(c int) bool { return c < 0 }))},
		verbMax:         {takes: isAnything, term: atPlaces(setIf(func(c int) bool { return c > 0 }))},
		verbRename:      {takes: isText, term: rename},
		verbPush:        {takes: isPushed, term: atPlaces(push)},
		verbAddToSet:    {takes: isAdded, term: atPlaces(addToSet)},
		verbPop:         {takes: isEnd, term: atPlaces(pop)},
		verbPull:        {takes: isAnything, term: pull},
		verbPullAll:     {takes: isList, term: atPlaces(pullAll)},
	}
}

func numberOf(name string) (int, bool) {
	switch name {
	case "$set":
		return verbSet, true
	case "$setOnInsert":
		return verbSetOnInsert, true
	case "$unset":
		return verbUnset, true
	case "$inc":
		return verbInc, true
	case "$mul":
		return verbMul, true
	case "$min":
		return verbMin, true
	case "$max":
		return verbMax, true
	case "$rename":
		return verbRename, true
	case "$push":
		return verbPush, true
	case "$addToSet":
		return verbAddToSet, true
	case "$pop":
		return verbPop, true
	case "$pull":
		return verbPull, true
	case "$pullAll":
		return verbPullAll, true
	}
	return 0, false
}

func isAnything(api.Value) bool { return true }

func isInt(x api.Value) bool { return x.Kind == api.Int }

func isText(x api.Value) bool { return x.Kind == api.Text }

func isList(x api.Value) bool { return x.Kind == api.List }

// isEnd is for $pop: the last item, or the first.
func isEnd(x api.Value) bool { return isInt(x) && (x.Int == 1 || x.Int == -1) }

func isPushed(x api.Value) bool { return !begins(x) || isBatch(x) }

func isBatch(x api.Value) bool {
	each := false
	for i, name := range x.Names {
		fits := isInt
		switch name {
		case "$each":
			each, fits = true, isList
		case "$position", "$slice":
		default:
			return false
		}
		if !fits(x.Items[i]) {
			return false
		}
	}
	return each
}

func isAdded(x api.Value) bool { return !begins(x) || isBatch(x) && len(x.Names) == 1 }

// atPlaces is for a verb whose operand alone says what is done at each place.
func atPlaces(made func(operand api.Value) change) func(path, api.Value) (term, error) {
	return func(own path, x api.Value) (term, error) { return anywhere{own, made(x)}, nil }
}

func setFresh(own path, x api.Value) (term, error) {
	return whenFresh{anywhere{own, set(x)}}, nil
}

func rename(own path, x api.Value) (term, error) {
	to, e, _ := dotpath.Parse(x.Text)
	if e != api.OK {
		return nil, fault(e)
	}
	if own.hasItems() {
		return nil, fault(api.ErrGive)
	}
	return renaming{own, to}, nil
}

func pull(own path, x api.Value) (term, error) {
	takes, e := pulled(x)
	return anywhere{own, without(takes)}, failed(e)
}

// pulled says which items $pull takes.
func pulled(x api.Value) (func(item api.Value) bool, api.Errno) {
	switch {
	case begins(x) && !joinsQueries(x.Names[0]):
		f, e := filter.Parse(object("v", x))
		return func(item api.Value) bool { return f.Match(object("v", item)) }, e
	case hasMembers(x):
		f, e := filter.Parse(x)
		return func(item api.Value) bool { return item.Kind == api.Object && f.Match(item) }, e
	}
	return func(item api.Value) bool { return jsonval.Equal(item, x) }, api.OK
}

// joinsQueries tells whether an object whose first name that is is a query, not a test.
func joinsQueries(name string) bool { return name == "$and" || name == "$or" || name == "$nor" }
