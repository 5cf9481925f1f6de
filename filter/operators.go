package filter

import "docket/api"

// operator is a row of the table of 4.1.
type operator struct {
	need int
	read reading
}

// reading makes, of what an operator is given in a test that stands so deep, what must hold.
type reading func(r *reader, x api.Value, deep int) (condition, api.Errno)

func operators() map[string]operator {
	return map[string]operator{
		"$eq":        {need: api.NeedEq, read: anything(equals)},
		"$ne":        {read: opposite(anything(equals))},
		"$gt":        {need: api.NeedGt, read: anything(compares(func(c int) bool { return c > 0 }))},
		"$gte":       {need: api.NeedGte, read: anything(compares(func(c int) bool { return c >= 0 }))},
		"$lt":        {need: api.NeedLt, read: anything(compares(func(c int) bool { return c < 0 }))},
		"$lte":       {need: api.NeedLte, read: anything(compares(func(c int) bool { return c <= 0 }))},
		"$in":        {need: api.NeedIn, read: list(equalsOne)},
		"$nin":       {read: opposite(list(equalsOne))},
		"$all":       {read: list(equalsEach)},
		"$exists":    {read: flag},
		"$type":      {read: typeName},
		"$size":      {read: size},
		"$mod":       {read: divisor},
		"$not":       {read: opposite(inner)},
		"$elemMatch": {read: ofItems},
	}
}

// anything is for an operator that takes any value.
func anything(holds func(x api.Value) condition) reading {
	return func(_ *reader, x api.Value, _ int) (condition, api.Errno) {
		return holds(x), api.OK
	}
}

func list(holds func(l []api.Value) condition) reading {
	return func(_ *reader, x api.Value, _ int) (condition, api.Errno) {
		if x.Kind != api.List {
			return nil, api.ErrOperand
		}
		return holds(x.Items), api.OK
	}
}

// opposite takes what read takes, and holds where that does not.
func opposite(read reading) reading {
	return func(r *reader, x api.Value, deep int) (condition, api.Errno) {
		holds, e := read(r, x, deep)
		return func(values []api.Value) bool { return !holds(values) }, e
	}
}

func flag(_ *reader, x api.Value, _ int) (condition, api.Errno) {
	if class(x) != api.False {
		return nil, api.ErrOperand
	}
	return exists(x.Kind == api.True), api.OK
}

func typeName(_ *reader, x api.Value, _ int) (condition, api.Errno) {
	c, there := classNamed(x.Text)
	if x.Kind != api.Text || !there {
		return nil, api.ErrOperand
	}
	return isOf(c), api.OK
}

func size(_ *reader, x api.Value, _ int) (condition, api.Errno) {
	if x.Kind != api.Int || x.Int < 0 {
		return nil, api.ErrOperand
	}
	return hasItems(x.Int), api.OK
}

func divisor(_ *reader, x api.Value, _ int) (condition, api.Errno) {
	if x.Kind != api.List || len(x.Items) != 2 {
		return nil, api.ErrOperand
	}
	by, rest := x.Items[0], x.Items[1]
	if by.Kind != api.Int || rest.Kind != api.Int || by.Int == 0 {
		return nil, api.ErrOperand
	}
	return leaves(by.Int, rest.Int), api.OK
}

// inner is for $not, which is the opposite of all of its test.
func inner(r *reader, x api.Value, deep int) (condition, api.Errno) {
	t, e := r.test(x, deep+1)
	return t.holds, e
}

// ofItems is for $elemMatch.
func ofItems(r *reader, x api.Value, deep int) (condition, api.Errno) {
	if first := firstName(x); hasDollar(first) && !joinsQueries(first) {
		t, e := r.test(x, deep+1)
		return hasOne(func(item api.Value) bool { return t.holds([]api.Value{item}) }), e
	}
	q, e := r.query(x, deep+1)
	return hasOne(func(item api.Value) bool { return item.Kind == api.Object && matches(q, item) }), e
}
