package filter

import (
	"slices"

	"docket/api"
	"docket/jsonval"
	"docket/order"
)

func equals(x api.Value) condition {
	return func(values []api.Value) bool { return equal(values, x) }
}

func equalsOne(l []api.Value) condition {
	return func(values []api.Value) bool {
		return slices.ContainsFunc(l, func(x api.Value) bool { return equal(values, x) })
	}
}

func equalsEach(l []api.Value) condition {
	return func(values []api.Value) bool {
		return len(l) > 0 && !slices.ContainsFunc(l, func(x api.Value) bool { return !equal(values, x) })
	}
}

// equal takes a place at which nothing stands for null.
func equal(values []api.Value, x api.Value) bool {
	if len(values) == 0 {
		return x.Kind == api.Null
	}
	return tested(values, func(v api.Value) bool { return jsonval.Equal(v, x) })
}

// compares is handed which answers of order.Compare suit: of a tested value and, behind it, what the operator takes.
func compares(suits func(c int) bool) func(x api.Value) condition {
	return func(x api.Value) condition {
		like := func(v api.Value) bool { return class(v) == class(x) && suits(order.Compare(v, x)) }
		return func(values []api.Value) bool { return tested(values, like) }
	}
}

func exists(wanted bool) condition {
	return func(values []api.Value) bool { return len(values) > 0 == wanted }
}

func isOf(c int) condition {
	return func(values []api.Value) bool {
		return tested(values, func(v api.Value) bool { return class(v) == c })
	}
}

func leaves(by, rest int64) condition {
	return func(values []api.Value) bool {
		return tested(values, func(v api.Value) bool { return v.Kind == api.Int && v.Int%by == rest })
	}
}

func hasItems(n int64) condition {
	return func(values []api.Value) bool {
		return listed(values, func(items []api.Value) bool { return int64(len(items)) == n })
	}
}

func hasOne(suits func(item api.Value) bool) condition {
	return func(values []api.Value) bool {
		return listed(values, func(items []api.Value) bool { return slices.ContainsFunc(items, suits) })
	}
}

// tested tells whether a tested value suits: a value itself, or an item of one that is a list.
func tested(values []api.Value, suits func(v api.Value) bool) bool {
	return slices.ContainsFunc(values, suits) ||
		listed(values, func(items []api.Value) bool { return slices.ContainsFunc(items, suits) })
}

// listed tells whether a value is a list whose items suit.
func listed(values []api.Value, suits func(items []api.Value) bool) bool {
	return slices.ContainsFunc(values, func(v api.Value) bool { return v.Kind == api.List && suits(v.Items) })
}

// class is a value's kind, false and true being one.
func class(v api.Value) int {
	if v.Kind == api.True {
		return api.False
	}
	return v.Kind
}

func classNamed(name string) (int, bool) {
	switch name {
	case "null":
		return api.Null, true
	case "bool":
		return api.False, true
	case "int":
		return api.Int, true
	case "string":
		return api.Text, true
	case "array":
		return api.List, true
	case "object":
		return api.Object, true
	}
	return 0, false
}
