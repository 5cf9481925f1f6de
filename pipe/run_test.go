package pipe_test

import (
	"testing"

	"docket/api"
	"docket/jsonval"
	"docket/pipe"
)

// checkRun holds what comes of a list against a text: the list's.
func checkRun(t *testing.T, stages, in, want string) {
	t.Helper()
	l, e, at := piped(t, parsed(t, stages)).Run(parsed(t, in).Items)
	if e != api.OK || at != 0 || told(l) != want {
		t.Errorf("%s of %s: %s, %d at %d; want %s", stages, in, told(l), e, at, want)
	}
}

func checkRunFails(t *testing.T, stages api.Value, l []api.Value, want api.Errno, wantAt int) {
	t.Helper()
	if got, e, at := piped(t, stages).Run(l); e != want || at != wantAt || got != nil {
		t.Errorf("%.200s of %.200s: %.100s, %d at %d; want %d at %d", full(stages), told(l), told(got), e, at, want, wantAt)
	}
}

const three = `[{"k":"a","n":1},{"k":"b","n":2},{"k":"a","n":3}]`

// P7.4: what each stage makes.
func TestRun(t *testing.T) {
	const mixed = `[{"a":3,"b":1},{"a":1},7,{"a":[2,5]},{"a":1,"b":2},null]`
	for _, c := range []struct{ stages, in, want string }{
		{`[]`, three, three},
		{`[]`, `[]`, `[]`},
		{`[]`, `[1,"x",null,[2]]`, `[1,"x",null,[2]]`},

		{`[{"$match":{"n":{"$gt":1}}},{"$count":"c"}]`, three, `[{"c":2}]`},
		{`[{"$match":{"k":"a"}}]`, three, `[{"k":"a","n":1},{"k":"a","n":3}]`},
		{`[{"$match":{}}]`, mixed, mixed},
		{`[{"$match":{"a":null}}]`, mixed, `[7,null]`},
		{`[{"$match":{"n":9}}]`, three, `[]`},

		{`[{"$sort":{"a":1}}]`, mixed, `[7,null,{"a":1},{"a":1,"b":2},{"a":[2,5]},{"a":3,"b":1}]`},
		{`[{"$sort":{"a":-1}}]`, mixed, `[{"a":[2,5]},{"a":3,"b":1},{"a":1},{"a":1,"b":2},7,null]`},
		{`[{"$sort":{"a":1,"b":-1}}]`, mixed, `[7,null,{"a":1,"b":2},{"a":1},{"a":[2,5]},{"a":3,"b":1}]`},
		{`[{"$sort":{}}]`, mixed, mixed},
		{`[{"$sort":{"x":-1}}]`, mixed, mixed},

		{`[{"$skip":0}]`, three, three},
		{`[{"$skip":2}]`, three, `[{"k":"a","n":3}]`},
		{`[{"$skip":3}]`, three, `[]`},
		{`[{"$skip":9223372036854775807}]`, three, `[]`},
		{`[{"$limit":1}]`, three, `[{"k":"a","n":1}]`},
		{`[{"$limit":3}]`, three, three},
		{`[{"$limit":9223372036854775807}]`, three, three},
		{`[{"$skip":1},{"$limit":1}]`, three, `[{"k":"b","n":2}]`},
		{`[{"$limit":1},{"$skip":1}]`, three, `[]`},

		{`[{"$project":{"n":1}}]`, three, `[{"n":1},{"n":2},{"n":3}]`},
		{`[{"$project":{"n":0}}]`, three, `[{"k":"a"},{"k":"b"},{"k":"a"}]`},
		{`[{"$project":{}}]`, mixed, mixed},
		{`[{"$project":{"a":1}}]`, mixed, `[{"a":3},{"a":1},7,{"a":[2,5]},{"a":1},null]`},

		{`[{"$set":{"m":{"$add":["$n",10]}}},{"$project":{"m":1}},{"$sort":{"m":-1}},{"$limit":1}]`, three, `[{"m":13}]`},
		{`[{"$set":{"n":"$k","k":"$n"}}]`, three, `[{"k":1,"n":"a"},{"k":2,"n":"b"},{"k":3,"n":"a"}]`}, // of the value as it came into the stage
		{`[{"$set":{"n":{"$add":["$n",1]},"m":"$n"}}]`, `[{"n":1}]`, `[{"n":2,"m":1}]`},
		{`[{"$set":{"a.b.c":"$","x":null}}]`, `[{"a":{"d":1}},{}]`, `[{"a":{"d":1,"b":{"c":{"a":{"d":1}}}},"x":null},{"a":{"b":{"c":{}}},"x":null}]`},
		{`[{"$set":{"l.0":9,"l.2":"$l.0"}}]`, `[{"l":[1,2]}]`, `[{"l":[9,2,1]}]`},
		{`[{"$set":{"0":"$1"}}]`, `[[1,2],[3,4]]`, `[[2,2],[4,4]]`},
		{`[{"$set":{"n":"$x"}}]`, `[{"n":1}]`, `[{"n":null}]`},

		{`[{"$unwind":"l"}]`, `[{"l":[1,2]},{"l":[]},{"l":3},{}]`, `[{"l":1},{"l":2},{"l":3}]`},
		{`[{"$unwind":"l"}]`, `[{"l":null},{"l":"x"},{"l":{"a":[1]}},{"l":false},5,null,[1]]`, `[{"l":"x"},{"l":{"a":[1]}},{"l":false}]`},
		{`[{"$unwind":"l"}]`, `[{"a":1,"l":[[1],null,[]],"b":2}]`, `[{"a":1,"l":[1],"b":2},{"a":1,"l":null,"b":2},{"a":1,"l":[],"b":2}]`},
		{`[{"$unwind":"l"},{"$unwind":"l"}]`, `[{"l":[[1,2],null,[],3]}]`, `[{"l":1},{"l":2},{"l":3}]`},
		{`[{"$unwind":"o.l.0"}]`, `[{"o":{"x":1,"l":[["a","b"],"c"]}}]`, `[{"o":{"x":1,"l":["a","c"]}},{"o":{"x":1,"l":["b","c"]}}]`},
		{`[{"$unwind":"l.q"}]`, `[{"l":[{"q":[1,2]}]}]`, `[]`}, // the path leads to nothing, as it is no query's
		{`[{"$unwind":"1"}]`, `[[0,[1,2]],[3,4],[5]]`, `[[0,1],[0,2],[3,4]]`},

		{`[{"$count":"c"}]`, `[]`, `[{"c":0}]`},
		{`[{"$count":"n"}]`, three, `[{"n":3}]`},
		{`[{"$count":"n"},{"$count":"n"},{"$set":{"n":{"$add":["$n",5]}}}]`, three, `[{"n":6}]`},
	} {
		checkRun(t, c.stages, c.in, c.want)
	}
}

// P7.4: $group and its collectors.
func TestRunGroups(t *testing.T) {
	const mixed = `[{"k":2,"v":5},{"k":1,"v":"x"},{"k":2,"v":null},{"k":2},{"k":1,"v":-3},{"k":2,"v":[1]},{"k":1,"v":"x"},{"k":2,"v":5},{"k":2,"v":7}]`
	for _, c := range []struct{ stages, in, want string }{
		{`[{"$group":{"_id":"$k","s":{"$sum":"$n"},"c":{"$count":{}}}}]`, three, `[{"_id":"a","s":4,"c":2},{"_id":"b","s":2,"c":1}]`},
		{`[{"$group":{"_id":null}}]`, `[]`, `[]`},
		{`[{"$group":{"_id":null,"c":{"$count":{}}}}]`, `[]`, `[]`},
		{`[{"$group":{"_id":7}}]`, three, `[{"_id":7}]`},
		{`[{"$group":{"_id":"$x"}}]`, three, `[{"_id":null}]`},
		{`[{"$group":{"_id":"$"}}]`, `[true,[2],{"b":1},"x",3,null,false,[2],{"a":1},3]`, `[{"_id":null},{"_id":3},{"_id":"x"},{"_id":{"a":1}},{"_id":{"b":1}},{"_id":[2]},{"_id":false},{"_id":true}]`},
		{`[{"$group":{"_id":"$"}}]`, `[{"a":1,"b":2},{"b":2,"a":1},{"a":1,"b":2}]`, `[{"_id":{"a":1,"b":2}},{"_id":{"b":2,"a":1}}]`},
		{`[{"$group":{"_id":{"$mod":["$n",2]},"n":{"$push":"$n"}}}]`, three, `[{"_id":0,"n":[2]},{"_id":1,"n":[1,3]}]`},
		{`[{"$group":{"_id":["$k"],"b":{"$first":"$n"},"a":{"$last":"$n"}}}]`, three, `[{"_id":["a"],"b":1,"a":3},{"_id":["b"],"b":2,"a":2}]`}, // names in their order

		{`[{"$group":{"_id":"$k","x":{"$sum":"$v"}}}]`, mixed, `[{"_id":1,"x":-3},{"_id":2,"x":17}]`},
		{`[{"$group":{"_id":"$k","x":{"$avg":"$v"}}}]`, mixed, `[{"_id":1,"x":{"sum":-3,"count":1}},{"_id":2,"x":{"sum":17,"count":3}}]`},
		{`[{"$group":{"_id":"$k","x":{"$min":"$v"}}}]`, mixed, `[{"_id":1,"x":-3},{"_id":2,"x":5}]`},
		{`[{"$group":{"_id":"$k","x":{"$max":"$v"}}}]`, mixed, `[{"_id":1,"x":"x"},{"_id":2,"x":[1]}]`},
		{`[{"$group":{"_id":"$k","x":{"$first":"$v"},"y":{"$last":"$v"}}}]`, mixed, `[{"_id":1,"x":"x","y":"x"},{"_id":2,"x":5,"y":7}]`},
		{`[{"$group":{"_id":"$k","x":{"$push":"$v"}}}]`, mixed, `[{"_id":1,"x":["x",-3,"x"]},{"_id":2,"x":[5,null,null,[1],5,7]}]`},
		{`[{"$group":{"_id":"$k","x":{"$addToSet":"$v"}}}]`, mixed, `[{"_id":1,"x":[-3,"x"]},{"_id":2,"x":[null,5,7,[1]]}]`},
		{`[{"$group":{"_id":"$k","x":{"$count":{}}}}]`, mixed, `[{"_id":1,"x":3},{"_id":2,"x":6}]`},
		{`[{"$group":{"_id":null,"x":{"$sum":1},"y":{"$avg":{"$size":[["$k","$v"]]}}}}]`, mixed, `[{"_id":null,"x":9,"y":{"sum":18,"count":9}}]`},

		{`[{"$group":{"_id":1,"a":{"$sum":"$x"},"b":{"$avg":"$x"},"c":{"$min":"$x"},"d":{"$max":"$x"},"e":{"$first":"$x"},"f":{"$last":"$x"},"g":{"$push":"$x"},"h":{"$addToSet":"$x"},"i":{"$count":{}}}}]`, `[{},{"x":null}]`,
			`[{"_id":1,"a":0,"b":{"sum":0,"count":0},"c":null,"d":null,"e":null,"f":null,"g":[null,null],"h":[null],"i":2}]`},
		{`[{"$group":{"_id":1,"f":{"$first":"$x"},"l":{"$last":"$x"},"lo":{"$min":"$x"},"hi":{"$max":"$x"}}}]`, `[{},{"x":1},{"x":false},{"x":null}]`, `[{"_id":1,"f":null,"l":null,"lo":1,"hi":false}]`},
		{`[{"$group":{"_id":1,"s":{"$sum":"$x"}}}]`, `[{"x":true},{"x":"5"},{"x":[5]},{"x":{"x":5}}]`, `[{"_id":1,"s":0}]`},
		{`[{"$group":{"_id":"$k","":{"$push":{"a":"$n"}}}}]`, three, `[{"_id":"a","":[{"a":1},{"a":3}]},{"_id":"b","":[{"a":2}]}]`},
		{`[{"$group":{"_id":1,"s":{"$sum":"$n"}}}]`, `[{"n":9223372036854775807},{"n":-1},{"n":1},{"n":-9223372036854775808}]`, `[{"_id":1,"s":-1}]`},
	} {
		checkRun(t, c.stages, c.in, c.want)
	}
}

// P7.4: the first error, and its stage.
func TestRunErrors(t *testing.T) {
	const fault = `{"$divide":[1,"$n"]}`
	for _, c := range []struct {
		stages, in string
		want       api.Errno
		at         int
	}{
		{`[{"$set":{"a":` + fault + `}}]`, `[{"n":1},{"n":0}]`, api.ErrDivide, 0},
		{`[{"$skip":0},{"$set":{"a":` + fault + `}}]`, `[{"n":1},{"n":0},{"n":"x"}]`, api.ErrDivide, 1}, // value by value
		{`[{"$skip":0},{"$set":{"a":` + fault + `}}]`, `[{"n":1},{"n":"x"},{"n":0}]`, api.ErrEval, 1},
		{`[{"$set":{"a":` + fault + `,"b":{"$size":["$n"]}}}]`, `[{"n":0},{"n":1}]`, api.ErrDivide, 0},
		{`[{"$set":{"b":{"$size":["$n"]},"a":` + fault + `}}]`, `[{"n":0},{"n":1}]`, api.ErrEval, 0},
		{`[{"$set":{"b":{"$size":["$n"]}}},{"$set":{"a":` + fault + `}}]`, `[{"n":[]},{"n":0}]`, api.ErrEval, 0}, // stage by stage
		{`[{"$set":{"a":{"$add":["$n",1]}}}]`, `[{"n":9223372036854775807}]`, api.ErrOverflow, 0},
		{`[{"$set":{"n.x":1}}]`, `[{"n":{}},{"n":0}]`, api.ErrCross, 0},
		{`[{"$set":{"a":1}}]`, `[{},5]`, api.ErrCross, 0},
		{`[{"$set":{"a":1}}]`, `[[]]`, api.ErrCross, 0},
		{`[{"$limit":9},{"$limit":9},{"$set":{"l.2":1}}]`, `[{"l":[1]}]`, api.ErrIndex, 2},
		{`[{"$set":{"n.x":` + fault + `}}]`, `[{"n":0}]`, api.ErrDivide, 0},           // Eval ahead of Set
		{`[{"$set":{"n.x":1,"a":` + fault + `}}]`, `[{"n":0}]`, api.ErrCross, 0},      // member by member
		{`[{"$set":{"a":` + fault + `,"n.x":1}}]`, `[{"n":0}]`, api.ErrDivide, 0},     // likewise
		{`[{"$set":{"l.1":1,"l.2":"$l.9","l.4":1}}]`, `[{"l":[1]}]`, api.ErrIndex, 0}, // l.2 is there by then
		{`[{"$set":{"l.2":1,"l.1":1}}]`, `[{"l":[1]}]`, api.ErrIndex, 0},              // l.1 is not
		{`[{"$set":{"a":1,"b.c":2}}]`, `[{"b":{}},{"a":{},"b":7}]`, api.ErrCross, 0},
		{`[{"$group":{"_id":` + fault + `}}]`, `[{"n":1},{"n":0}]`, api.ErrDivide, 0},
		{`[{"$group":{"_id":{"$size":["$n"]}}}]`, `[{"n":[]},{}]`, api.ErrEval, 0},
		{`[{"$count":"n"},{"$group":{"_id":` + fault + `}}]`, `[]`, api.ErrDivide, 1}, // of none too it makes one
		{`[{"$match":{"n":1}},{"$set":{"a":` + fault + `}}]`, `[{"n":0}]`, api.OK, 0}, // what does not come in makes no error
		{`[{"$unwind":"x"},{"$group":{"_id":` + fault + `}}]`, `[{"n":0}]`, api.OK, 0},
		{`[{"$limit":1},{"$set":{"a":` + fault + `}}]`, `[{"n":1},{"n":0}]`, api.OK, 0},

		// Of a $group's value its _id, and then its collectors in their order.
		{`[{"$group":{"_id":{"$size":["$n"]},"a":{"$sum":` + fault + `}}}]`, `[{"n":0}]`, api.ErrEval, 0},
		{`[{"$group":{"_id":1,"a":{"$sum":` + fault + `},"b":{"$push":{"$size":["$n"]}}}}]`, `[{"n":0}]`, api.ErrDivide, 0},
		{`[{"$group":{"_id":1,"b":{"$push":{"$size":["$n"]}},"a":{"$sum":` + fault + `}}}]`, `[{"n":0}]`, api.ErrEval, 0},
		{`[{"$group":{"_id":"$n","a":{"$max":` + fault + `}}}]`, `[{"n":"x"},{"n":0}]`, api.ErrEval, 0},
		{`[{"$group":{"_id":{"$subtract":["$n",1]},"a":{"$max":` + fault + `}}}]`, `[{"n":0},{"n":"x"}]`, api.ErrDivide, 0},
		{`[{"$group":{"_id":1,"a":{"$first":` + fault + `}}}]`, `[{"n":1},{"n":0}]`, api.ErrDivide, 0}, // gone through for each value
		{`[{"$group":{"_id":1,"a":{"$last":` + fault + `}}}]`, `[{"n":0},{"n":1}]`, api.ErrDivide, 0},
		{`[{"$group":{"_id":1,"a":{"$min":` + fault + `}}}]`, `[{"n":1},{"n":0}]`, api.ErrDivide, 0},
		{`[{"$group":{"_id":1,"a":{"$addToSet":` + fault + `}}}]`, `[{"n":1},{"n":0}]`, api.ErrDivide, 0},
		{`[{"$group":{"_id":1,"a":{"$avg":` + fault + `}}}]`, `[{"n":1},{"n":0}]`, api.ErrDivide, 0},

		// Sums of the values so far, in their order, group by group.
		{`[{"$group":{"_id":1,"a":{"$sum":"$n"}}}]`, `[{"n":9223372036854775807},{"n":1}]`, api.ErrOverflow, 0},
		{`[{"$group":{"_id":1,"a":{"$sum":"$n"}}}]`, `[{"n":9223372036854775807},{"n":1},{"n":-5}]`, api.ErrOverflow, 0},
		{`[{"$group":{"_id":1,"a":{"$sum":"$n"}}}]`, `[{"n":9223372036854775807},{"n":-5},{"n":1}]`, api.OK, 0},
		{`[{"$group":{"_id":1,"a":{"$avg":"$n"}}}]`, `[{"n":-9223372036854775808},{"n":-1},{"n":5}]`, api.ErrOverflow, 0},
		{`[{"$group":{"_id":"$k","a":{"$sum":"$n"}}}]`, `[{"n":9223372036854775807,"k":1},{"n":1,"k":2}]`, api.OK, 0},
		{`[{"$group":{"_id":1,"a":{"$min":"$n"},"b":{"$push":"$n"}}}]`, `[{"n":9223372036854775807},{"n":1}]`, api.OK, 0},
		{`[{"$group":{"_id":1,"a":{"$sum":"$n"},"b":{"$push":{"$size":["$l"]}}}}]`, `[{"n":9223372036854775807,"l":[]},{"n":1}]`, api.ErrOverflow, 0},
		{`[{"$group":{"_id":1,"b":{"$push":{"$size":["$l"]}},"a":{"$sum":"$n"}}}]`, `[{"n":9223372036854775807,"l":[]},{"n":1}]`, api.ErrEval, 0},
		{`[{"$group":{"_id":1,"a":{"$sum":"$n"},"b":{"$push":{"$size":["$l"]}}}}]`, `[{"n":9223372036854775807},{"n":1,"l":[]}]`, api.ErrEval, 0},
	} {
		if c.want != api.OK {
			checkRunFails(t, parsed(t, c.stages), parsed(t, c.in).Items, c.want, c.at)
		} else if _, e, at := piped(t, parsed(t, c.stages)).Run(parsed(t, c.in).Items); e != api.OK || at != 0 {
			t.Errorf("%s of %s: %d at %d", c.stages, c.in, e, at)
		}
	}
}

// P7.4: what stands in l that is no value, and how many there may be.
func TestRunOfManyAndOdd(t *testing.T) {
	none, fails := jsonval.Listed(), parsed(t, `[{"$skip":1},{"$set":{"a":{"$divide":[1,0]}}}]`)
	one, spoilt, twice := jsonval.Of(1), odd(9, nil), odd(api.Object, []string{"a", "a"}, jsonval.Of(1), jsonval.Of(1))
	for _, p := range []api.Value{none, fails} {
		checkRunFails(t, p, []api.Value{spoilt}, api.ErrValue, 0)
		checkRunFails(t, p, []api.Value{one, one, spoilt, twice}, api.ErrValue, 0)
		checkRunFails(t, p, []api.Value{one, twice, spoilt}, api.ErrName, 0)
		checkRunFails(t, p, []api.Value{one, nested(api.MaxDepth+1, one), twice}, api.ErrDepth, 0)
		checkRunFails(t, p, []api.Value{nested(60000, one)}, api.ErrDepth, 0)
		checkRunFails(t, p, several(api.MaxMade+1, one), api.ErrMuch, 0)
		checkRunFails(t, p, append(several(api.MaxMade+1, one), twice), api.ErrName, 0)
	}
	l := several(api.MaxMade, nested(api.MaxDepth, one))
	if got, e, at := piped(t, none).Run(l); e != api.OK || at != 0 || len(got) != api.MaxMade {
		t.Errorf("of MaxMade: %d, %d at %d", len(got), e, at)
	}
	checkRunFails(t, fails, l, api.ErrDivide, 1)
}

// P7.4: as many as MaxMade values, and more, behind $unwind.
func TestRunMakesMuch(t *testing.T) {
	items := func(n int) api.Value { return object("l", jsonval.Listed(several(n, jsonval.Of(1))...)) }
	for _, c := range []struct {
		stages string
		l      []api.Value
		n      int // -1: too many
		at     int
	}{
		{`[{"$unwind":"l"}]`, []api.Value{items(api.MaxMade)}, api.MaxMade, 0},
		{`[{"$unwind":"l"}]`, []api.Value{items(api.MaxMade + 1)}, -1, 0},
		{`[{"$unwind":"l"}]`, []api.Value{items(300000)}, -1, 0},
		{`[{"$unwind":"l"}]`, []api.Value{items(4000), items(0), items(96)}, api.MaxMade, 0},
		{`[{"$unwind":"l"}]`, []api.Value{items(4000), items(0), items(97), items(1)}, -1, 0},
		{`[{"$unwind":"l"}]`, append(several(api.MaxMade-3, object("l", jsonval.Of(1))), items(3)), api.MaxMade, 0},
		{`[{"$unwind":"l"}]`, append(several(api.MaxMade-3, object("l", jsonval.Of(1))), items(4)), -1, 0},
		{`[{"$unwind":"l"}]`, append(several(api.MaxMade-3, items(2)), jsonval.Of(1)), -1, 0},
		{`[{"$skip":0},{"$unwind":"l"},{"$limit":1}]`, []api.Value{items(api.MaxMade + 1)}, -1, 1},
		{`[{"$unwind":"l"},{"$set":{"l":[1,2]}},{"$unwind":"l"},{"$count":"c"}]`, []api.Value{items(2048)}, 1, 0},
		{`[{"$unwind":"l"},{"$set":{"l":[1,2]}},{"$unwind":"l"},{"$count":"c"}]`, []api.Value{items(2049)}, -1, 2},
		{`[{"$unwind":"l"},{"$group":{"_id":"$l"}}]`, []api.Value{items(api.MaxMade)}, 1, 0},
	} {
		stages := parsed(t, c.stages)
		if c.n < 0 {
			checkRunFails(t, stages, c.l, api.ErrMuch, c.at)
		} else if got, e, at := piped(t, stages).Run(c.l); e != api.OK || at != 0 || len(got) != c.n {
			t.Errorf("%s: %d values, %d at %d; want %d", c.stages, len(got), e, at, c.n)
		}
	}
}

// P7.4: ErrDepth.
func TestRunDeep(t *testing.T) {
	one := jsonval.Of(1)
	deep := func(n int) api.Value { return object("a", nested(n, one)) } // of the depth n + 1
	zero := jsonval.Named([]string{"a", "n"}, one, jsonval.Of(0))
	for _, c := range []struct {
		stages string
		l      []api.Value
		want   api.Errno
		at     int
	}{
		{`[{"$set":{"b":"$a"}}]`, []api.Value{deep(63)}, api.OK, 0},
		{`[{"$set":{"b":"$"}}]`, []api.Value{deep(62)}, api.OK, 0},
		{`[{"$set":{"b":"$"}}]`, []api.Value{deep(62), deep(63)}, api.ErrDepth, 0}, // the value that is made, not what is said
		{`[{"$set":{"b":{"$literal":[]}}},{"$set":{"x.y":"$a"}}]`, []api.Value{deep(63)}, api.ErrDepth, 1},
		{`[{"$set":{"b":["$"]}}]`, []api.Value{deep(61)}, api.OK, 0},
		{`[{"$set":{"b":["$"]}}]`, []api.Value{deep(62)}, api.ErrDepth, 0},
		{`[{"$set":{"b":["$"]}}]`, []api.Value{deep(63)}, api.ErrDepth, 0},
		{`[{"$set":{"b":"$"}}]`, []api.Value{object("a", nested(61, jsonval.Listed()))}, api.OK, 0},
		{`[{"$set":{"b":"$"}}]`, []api.Value{object("a", nested(62, jsonval.Listed()))}, api.ErrDepth, 0},
		{`[{"$set":{"b":"$","c":{"$divide":[1,"$n"]}}}]`, []api.Value{jsonval.Named([]string{"a", "n"}, nested(63, one), jsonval.Of(0))}, api.ErrDivide, 0},  // when the value is made
		{`[{"$set":{"b":["$"],"c":{"$divide":[1,"$n"]}}}]`, []api.Value{jsonval.Named([]string{"a", "n"}, nested(63, one), jsonval.Of(0))}, api.ErrDepth, 0}, // an error of Eval
		{`[{"$set":{"n.x":["$"]}}]`, []api.Value{jsonval.Named([]string{"a", "n"}, nested(63, one), jsonval.Of(0))}, api.ErrDepth, 0},
		{`[{"$set":{"n.x":"$"}}]`, []api.Value{jsonval.Named([]string{"a", "n"}, nested(63, one), jsonval.Of(0))}, api.ErrCross, 0},
		{`[{"$set":{"b":"$","c":{"$divide":[1,{"$ifNull":["$n",1]}]}}}]`, []api.Value{deep(63), zero}, api.ErrDepth, 0}, // value by value
		{`[{"$set":{"b":"$","c":{"$divide":[1,{"$ifNull":["$n",1]}]}}}]`, []api.Value{zero, deep(63)}, api.ErrDivide, 0},
		{`[{"$set":{"a":1}}]`, []api.Value{deep(63)}, api.OK, 0},
		{`[{"$set":{"a.0.b":1}}]`, []api.Value{object("a", jsonval.Listed(deep(60)))}, api.OK, 0},

		{`[{"$group":{"_id":"$a"}}]`, []api.Value{deep(63)}, api.OK, 0},
		{`[{"$group":{"_id":"$"}}]`, []api.Value{deep(62)}, api.OK, 0},
		{`[{"$group":{"_id":"$"}}]`, []api.Value{one, deep(63)}, api.ErrDepth, 0},
		{`[{"$group":{"_id":["$"]}}]`, []api.Value{deep(62), one}, api.ErrDepth, 0},
		{`[{"$group":{"_id":["$"]}}]`, []api.Value{deep(63), one}, api.ErrDepth, 0},
		{`[{"$group":{"_id":1,"x":{"$first":"$"}}}]`, []api.Value{deep(62)}, api.OK, 0},
		{`[{"$group":{"_id":1,"x":{"$first":"$"}}}]`, []api.Value{deep(63)}, api.ErrDepth, 0},
		{`[{"$group":{"_id":1,"x":{"$first":"$"}}}]`, []api.Value{one, deep(63)}, api.OK, 0}, // it is not in what is made
		{`[{"$group":{"_id":1,"x":{"$first":["$"]}}}]`, []api.Value{one, deep(63)}, api.ErrDepth, 0},
		{`[{"$group":{"_id":1,"x":{"$push":"$"}}}]`, []api.Value{deep(61), one}, api.OK, 0},
		{`[{"$limit":5},{"$group":{"_id":1,"x":{"$push":"$"}}}]`, []api.Value{one, deep(62)}, api.ErrDepth, 1},
		{`[{"$group":{"_id":1,"x":{"$addToSet":"$"}}}]`, []api.Value{one, deep(62)}, api.ErrDepth, 0},
		{`[{"$group":{"_id":1,"x":{"$max":"$"}}}]`, []api.Value{one, deep(63)}, api.ErrDepth, 0},
		{`[{"$group":{"_id":1,"x":{"$sum":"$"},"y":{"$min":"$"},"z":{"$avg":"$"}}}]`, []api.Value{one, deep(63)}, api.OK, 0},
		{`[{"$group":{"_id":"$","y":{"$push":{"$divide":[1,{"$ifNull":["$n",1]}]}}}}]`, []api.Value{deep(63), zero}, api.ErrDivide, 0}, // groups are made when all values have come
		{`[{"$unwind":"a"}]`, []api.Value{deep(63)}, api.OK, 0},
		{`[{"$project":{"a":1}},{"$sort":{"a":1}},{"$match":{}},{"$skip":0},{"$limit":1}]`, []api.Value{deep(63)}, api.OK, 0},
	} {
		stages := parsed(t, c.stages)
		if c.want != api.OK {
			checkRunFails(t, stages, c.l, c.want, c.at)
		} else if got, e, at := piped(t, stages).Run(c.l); e != api.OK || at != 0 || len(got) == 0 {
			t.Errorf("%s of %s: %s, %d at %d", c.stages, told(c.l), told(got), e, at)
		}
	}
}

// P7.4: of MaxMade values all stages, at once.
func TestRunAllStages(t *testing.T) {
	stages := parsed(t, `[{"$match":{"n":{"$gte":96}}},{"$set":{"m":{"$mod":["$n",10]},"l":[1,"$n"]}},{"$unwind":"l"},{"$sort":{"l":-1}},{"$skip":4000},{"$limit":4000},{"$project":{"n":0}},{"$group":{"_id":"$m","c":{"$count":{}},"s":{"$sum":"$l"}}},{"$count":"groups"}]`)
	l := numbers(96 + api.MaxMade/2)
	if got, e, at := piped(t, stages).Run(l); e != api.OK || at != 0 || told(got) != `[{"groups":10}]` {
		t.Errorf("%s, %d at %d", told(got), e, at)
	}
	checkRunFails(t, stages, numbers(97+api.MaxMade/2), api.ErrMuch, 2)
}

// P7.5.
func TestRunOfNil(t *testing.T) {
	var p *pipe.Pipe
	for _, l := range [][]api.Value{nil, {}, {jsonval.Of(1)}, {odd(9, nil), odd(api.Object, []string{"a"}), nested(100, jsonval.Of(1))}, several(api.MaxMade+1, jsonval.Of(7))} {
		if got, e, at := p.Run(l); e != api.OK || at != 0 || told(got) != told(l) {
			t.Errorf("%.100s: %.100s, %d at %d", told(l), told(got), e, at)
		}
	}
}
