package update

import (
	"slices"

	"docket/api"
	"docket/dotpath"
	"docket/jsonval"
	"docket/order"
	"docket/whole"
)

// change makes another document of d, by what is done at a place.
type change func(d api.Value, place []string) (api.Value, error)

func laid(d api.Value, place []string, x api.Value) (api.Value, error) {
	d, e := dotpath.Set(d, place, x)
	return d, failed(e)
}

func set(x api.Value) change {
	return func(d api.Value, place []string) (api.Value, error) { return laid(d, place, x) }
}

func unset(api.Value) change {
	return func(d api.Value, place []string) (api.Value, error) {
		d, _ = dotpath.Unset(d, place)
		return d, nil
	}
}

// setIf is handed which answers of order.Compare suit: of the operand and, behind it, the value there.
func setIf(suits func(c int) bool) func(x api.Value) change {
	return func(x api.Value) change {
		return func(d api.Value, place []string) (api.Value, error) {
			if v, there := dotpath.Get(d, place); there && !suits(order.Compare(x, v)) {
				return d, nil
			}
			return laid(d, place, x)
		}
	}
}

func add(x api.Value) change {
	return reckon(x.Int, func(n int64) (int64, bool) { return whole.Sum(n, x.Int) })
}

func multiply(x api.Value) change {
	return reckon(0, func(n int64) (int64, bool) { return whole.Product(n, x.Int) })
}

// reckon lays first where there is nothing, and else what next makes of the number there.
func reckon(first int64, next func(n int64) (int64, bool)) change {
	return func(d api.Value, place []string) (api.Value, error) {
		v, there := dotpath.Get(d, place)
		if !there {
			return laid(d, place, jsonval.Of(first))
		}
		if !isInt(v) {
			return d, fault(api.ErrKind)
		}
		n, fits := next(v.Int)
		if !fits {
			return d, fault(api.ErrOverflow)
		}
		return laid(d, place, jsonval.Of(n))
	}
}

// relist is done where a list stands, and nothing where nothing does; next makes a list of its own.
func relist(next func(items []api.Value) []api.Value) change {
	return func(d api.Value, place []string) (api.Value, error) {
		v, there := dotpath.Get(d, place)
		switch {
		case !there:
			return d, nil
		case !isList(v):
			return d, fault(api.ErrKind)
		}
		return laid(d, place, api.Value{Kind: api.List, Items: next(v.Items)})
	}
}

// enlist is relist that takes nothing for an empty list.
func enlist(next func(items []api.Value) []api.Value) change {
	change := relist(next)
	return func(d api.Value, place []string) (api.Value, error) {
		if _, there := dotpath.Get(d, place); !there {
			return laid(d, place, api.Value{Kind: api.List, Items: next(nil)})
		}
		return change(d, place)
	}
}

// batchOf is of an operand of $push or $addToSet that is no batch a batch of that alone.
func batchOf(x api.Value) api.Value {
	if begins(x) {
		return x
	}
	return object("$each", jsonval.Listed(x))
}

func push(x api.Value) change {
	batch := batchOf(x)
	return enlist(func(items []api.Value) []api.Value { return sliced(batch, inserted(batch, items)) })
}

func inserted(batch api.Value, items []api.Value) []api.Value {
	each, _ := jsonval.Has(batch, "$each")
	at := len(items)
	if position, there := jsonval.Has(batch, "$position"); there {
		at = placeIn(position.Int, len(items))
	}
	return slices.Concat(items[:at], each.Items, items[at:])
}

func sliced(batch api.Value, items []api.Value) []api.Value {
	slice, there := jsonval.Has(batch, "$slice")
	if !there {
		return items
	}
	at := placeIn(slice.Int, len(items))
	if slice.Int < 0 {
		return slices.Clone(items[at:])
	}
	return slices.Clone(items[:at])
}

// placeIn is a place in a list, or its end: n from its beginning on or, below 0, ahead of its end, and never beyond either.
func placeIn(n int64, length int) int {
	if n < 0 {
		n += int64(length)
	}
	return int(max(0, min(n, int64(length))))
}

func addToSet(x api.Value) change {
	each, _ := jsonval.Has(batchOf(x), "$each")
	return enlist(func(items []api.Value) []api.Value {
		all, held := slices.Clone(items), setOf(items)
		for _, item := range each.Items {
			if held.add(item) {
				all = append(all, item)
			}
		}
		return all
	})
}

func pop(x api.Value) change {
	return relist(func(items []api.Value) []api.Value {
		switch {
		case len(items) == 0:
			return nil
		case x.Int < 0:
			return slices.Clone(items[1:])
		}
		return slices.Clone(items[:len(items)-1])
	})
}

func pullAll(x api.Value) change { return without(setOf(x.Items).has) }

func without(takes func(item api.Value) bool) change {
	return relist(func(items []api.Value) []api.Value { return slices.DeleteFunc(slices.Clone(items), takes) })
}
