package pipe

import (
	"math"
	"slices"
	"strings"

	"docket/api"
	"docket/jsonval"
	"docket/order"
	"docket/whole"
)

// operator makes a value of operands of which it has as many as it needs.
type operator func(operands []expression, d api.Value) api.Value

// needs are what an operator asks of its operands: how many, and of which kind all of them.
type needs struct{ count, kind int }

const (
	anyCount = -1
	anyKind  = -1
)

func (n needs) suits(count int) bool { return n.count == anyCount || n.count == count }

// needsOf tells too whether there is such an operator.
func needsOf(name string) (needs, bool) {
	n := needs{anyCount, anyKind}
	switch name {
	case "$subtract", "$divide", "$mod":
		n.count = 2
		fallthrough
	case "$add", "$multiply":
		n.kind = api.Int
	case "$concat":
		n.kind = api.Text
	case "$and", "$or":
	case "$size":
		n.kind = api.List
		fallthrough
	case "$not", "$type":
		n.count = 1
	case "$eq", "$ne", "$lt", "$lte", "$gt", "$gte", "$ifNull":
		n.count = 2
	case "$cond":
		n.count = 3
	default:
		return needs{}, false
	}
	return n, true
}

func operatorOf(name string, kind int) operator {
	switch name {
	case "$and":
		return until(false)
	case "$or":
		return until(true)
	case "$cond":
		return chosen
	case "$ifNull":
		return unlessNull
	}
	return ofAll(kind, madeBy(name))
}

// ofAll is for an operator that needs the values of all its operands.
func ofAll(kind int, makes func(values []api.Value) api.Value) operator {
	return func(operands []expression, d api.Value) api.Value {
		values := each(operands, d)
		if kind != anyKind && slices.ContainsFunc(values, func(v api.Value) bool { return v.Kind != kind }) {
			giveUp(api.ErrEval)
		}
		return makes(values)
	}
}

// madeBy is of an operator that needs the values of all its operands what it makes of them.
func madeBy(name string) func(values []api.Value) api.Value {
	switch name {
	case "$add":
		return folded(0, whole.Sum)
	case "$multiply":
		return folded(1, whole.Product)
	case "$subtract":
		return reckoned(whole.Difference)
	case "$divide":
		return divided(quotient)
	case "$mod":
		return divided(remainder)
	case "$concat":
		return joined
	case "$eq":
		return compared(func(c int) bool { return c == 0 })
	case "$ne":
		return compared(func(c int) bool { return c != 0 })
	case "$lt":
		return compared(func(c int) bool { return c < 0 })
	case "$lte":
		return compared(func(c int) bool { return c <= 0 })
	case "$gt":
		return compared(func(c int) bool { return c > 0 })
	case "$gte":
		return compared(func(c int) bool { return c >= 0 })
	case "$not":
		return not
	case "$size":
		return size
	}
	return typeOf // $type is the one that is left: needsOf knows no others
}

// until goes on as far as the first operand whose truth is the one that settles it.
func until(settles bool) operator {
	return func(operands []expression, d api.Value) api.Value {
		for _, x := range operands {
			if isTrue(x.of(d)) == settles {
				return jsonval.Flag(settles)
			}
		}
		return jsonval.Flag(!settles)
	}
}

func chosen(operands []expression, d api.Value) api.Value {
	if isTrue(operands[0].of(d)) {
		return operands[1].of(d)
	}
	return operands[2].of(d)
}

func unlessNull(operands []expression, d api.Value) api.Value {
	if v := operands[0].of(d); v.Kind != api.Null {
		return v
	}
	return operands[1].of(d)
}

func isTrue(v api.Value) bool {
	switch v.Kind {
	case api.Null, api.False:
		return false
	case api.Int:
		return v.Int != 0
	}
	return true
}

// folded reckons from the left: what it has so far must fit too.
func folded(from int64, next func(a, b int64) (int64, bool)) func(values []api.Value) api.Value {
	return func(values []api.Value) api.Value {
		n := from
		for _, v := range values {
			n = fitting(next(n, v.Int))
		}
		return jsonval.Of(n)
	}
}

func reckoned(makes func(a, b int64) (int64, bool)) func(values []api.Value) api.Value {
	return func(values []api.Value) api.Value {
		return jsonval.Of(fitting(makes(values[0].Int, values[1].Int)))
	}
}

func divided(makes func(a, b int64) (int64, bool)) func(values []api.Value) api.Value {
	reckon := reckoned(makes)
	return func(values []api.Value) api.Value {
		if values[1].Int == 0 {
			giveUp(api.ErrDivide)
		}
		return reckon(values)
	}
}

func fitting(n int64, fits bool) int64 {
	if !fits {
		giveUp(api.ErrOverflow)
	}
	return n
}

// quotient wraps round in one case alone: the least number has no opposite.
func quotient(a, b int64) (int64, bool) { return a / b, a != math.MinInt64 || b != -1 }

func remainder(a, b int64) (int64, bool) { return a % b, true }

func joined(values []api.Value) api.Value {
	var b strings.Builder
	for _, v := range values {
		b.WriteString(v.Text)
	}
	return jsonval.Word(b.String())
}

// compared is handed which answers of order.Compare suit.
func compared(suits func(c int) bool) func(values []api.Value) api.Value {
	return func(values []api.Value) api.Value {
		return jsonval.Flag(suits(order.Compare(values[0], values[1])))
	}
}

func not(values []api.Value) api.Value { return jsonval.Flag(!isTrue(values[0])) }

func size(values []api.Value) api.Value { return jsonval.Of(int64(len(values[0].Items))) }

func typeOf(values []api.Value) api.Value {
	names := [...]string{
		api.Null: "null", api.False: "bool", api.True: "bool", api.Int: "int",
		api.Text: "string", api.List: "array", api.Object: "object",
	}
	return jsonval.Word(names[values[0].Kind])
}
