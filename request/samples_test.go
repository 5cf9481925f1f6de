package request_test

import (
	"strconv"
	"strings"

	"docket/api"
)

// wrongs are texts of items that a member cannot be, with the error.
type wrongs []struct {
	text string
	e    api.Errno
}

func none(e api.Errno, texts ...string) wrongs {
	var l wrongs
	for _, text := range texts {
		l = append(l, wrongs{{text, e}}...)
	}
	return l
}

func and(all ...wrongs) wrongs {
	var l wrongs
	for _, w := range all {
		l = append(l, w...)
	}
	return l
}

func ints(least, most int64) ([]string, wrongs) {
	good := []string{strconv.FormatInt(least, 10), strconv.FormatInt(least+1, 10), strconv.FormatInt(most, 10)}
	bad := []string{strconv.FormatInt(least-1, 10), "-9223372036854775808", "null", "false", "true", `"1"`, "[1]", "{}"}
	if most < 1<<63-1 {
		bad = append(bad, strconv.FormatInt(most+1, 10), "9223372036854775807")
	}
	return good, none(api.ErrBad, bad...)
}

func flags() ([]string, wrongs) {
	return []string{"false", "true"}, none(api.ErrBad, "null", "0", "1", `"true"`, "[true]", "{}")
}

// many is an object of n members, each with the item.
func many(n int, item string) string {
	var l []string
	for i := range n {
		l = append(l, `"f`+strconv.Itoa(i)+`":`+item)
	}
	return "{" + strings.Join(l, ",") + "}"
}

// sample is texts of items that a member may be, and some that it may not be.
type sample struct {
	good  []string
	wrong wrongs
}

var samples = allSamples()

func allSamples() map[string]sample {
	all := map[string]sample{}
	for _, member := range allMembers() {
		good, wrong := samplesOf(member)
		all[member] = sample{good, wrong}
	}
	return all
}

func samplesOf(member string) ([]string, wrongs) {
	name32 := strings.Repeat("n", 32)
	id64 := strings.Repeat("~", 64)
	switch member {
	case "in":
		return []string{`"c"`, `"a-1"`, `"x_.9"`, `"` + name32 + `"`}, none(api.ErrCollection, `""`, `"C"`, `"1a"`, `"a/b"`, `"a b"`, `"é"`, `"`+name32+`n"`, "1", "null", "true", `["c"]`, `{"c":1}`)
	case "name":
		return []string{`"c"`, `"a-1"`, `"x_.9"`, `"` + name32 + `"`}, none(api.ErrBad, `""`, `"C"`, `"1a"`, `"a/b"`, `"`+name32+`n"`, "1", "null", "true", `["c"]`, `{"c":1}`)
	case "id":
		return []string{`"a"`, `"A/b"`, `"!"`, `"` + id64 + `"`, `"\"\\"`}, none(api.ErrId, `""`, `"a b"`, `"é"`, `"\u007f"`, `"`+id64+`~"`, "1", "null", "false", `["a"]`, `{"a":1}`)
	case "value":
		return []string{"{}", `{"n":1,"l":[1,[2]]}`, `{"op":"go","$x":1,"":null}`, long(api.MaxDoc), nest(api.MaxFit)},
			and(none(api.ErrDoc, "1", "null", "[]", `"{}"`, "true"), none(api.ErrBig, long(api.MaxDoc+1)), none(api.ErrDepth, nest(api.MaxFit+1), nest(60)))
	case "version":
		return ints(1, api.MaxStamp)
	case "ops":
		return []string{`{"$set":{"n":1}}`, `{"$inc":{"n":2,"m":1},"$push":{"t":"y"}}`, `{"$set":{"l.$[].q":0}}`},
			and(none(api.ErrUpdate, "1", "null", "[]", "{}", `{"$set":{}}`), none(api.ErrVerb, `{"$go":{}}`), none(api.ErrGive, `{"$pop":{"t":2}}`), none(api.ErrPath, `{"$set":{"a..b":1}}`), none(api.ErrClash, `{"$set":{"a":1,"a.b":2}}`), none(api.ErrFilters, `{"$set":{"l.$[e]":1}}`), none(api.ErrSteps, `{"$set":`+many(65, "1")+`}`))
	case "filters": // with ops that name no items
		return []string{"null", "[]"}, none(api.ErrFilters, "1", `"x"`, "true", "{}", "[1]", `[{"e":1}]`)
	case "upsert", "new", "unique":
		return flags()
	case "fields":
		return []string{"{}", `{"n":1,"m.k":1}`, `{"n":0}`, many(32, "1")},
			and(none(api.ErrFields, "null", "1", "[]", `"n"`, `{"n":2}`), none(api.ErrBoth, `{"a":1,"b":0}`), none(api.ErrClash, `{"a":1,"a.b":1}`), none(api.ErrPath, `{"a.0":1}`), none(api.ErrMany, many(33, "1")))
	case "filter":
		return []string{"{}", `{"n":1}`, `{"$or":[{"a":1},{"b":{"$in":[1,2]}}]}`},
			and(none(api.ErrFilter, "null", "1", "[]", `"n"`, `{"$or":[1]}`), none(api.ErrOperator, `{"$x":1}`), none(api.ErrOperand, `{"$or":[]}`), none(api.ErrPath, `{"a..b":1}`), none(api.ErrMany, many(65, "1")))
	case "sort":
		return []string{"{}", `{"n":1,"m":-1}`, many(8, "1")}, and(none(api.ErrSort, "null", "1", "[]", `{"n":2}`), none(api.ErrPath, `{"a..b":1}`), none(api.ErrMany, many(9, "1")))
	case "skip", "limit", "after", "most":
		return ints(0, 1<<63-1)
	case "batch":
		return ints(0, 256)
	case "cursor":
		return ints(1, 1<<63-1)
	case "path":
		return []string{`"n"`, `"a.b.0"`}, and(none(api.ErrBad, "null", "1", "true", `["n"]`, `{"n":1}`), none(api.ErrPath, `""`, `"a..b"`, `"$a"`, `"."`))
	case "pipe":
		return []string{"[]", `[{"$match":{"n":1}},{"$count":"c"}]`}, and(none(api.ErrPipe, "null", "{}", `"x"`, "[1]"), none(api.ErrStage, `[{"$go":1}]`), none(api.ErrSpec, `[{"$skip":1},{"$limit":0}]`), none(api.ErrExpr, `[{"$set":{"a":{"$add":1}}}]`))
	case "schema":
		return []string{"null", "{}", `{"type":"nothing of the kind"}`}, none(api.ErrBad, "[]", "1", `"x"`, "true", "false")
	case "mode":
		return []string{`"all"`, `"stop"`, `"each"`}, none(api.ErrBad, `""`, `"All"`, `"one"`, "null", "0", "1", `["all"]`, "{}")
	case "steps":
		step := `{"op":"delete","in":"c","id":"a"}`
		return []string{"[" + step + "]", "[" + strings.Repeat(step+",", 63) + step + "]"},
			none(api.ErrBad, "null", "1", "{}", `"x"`, "[]", step, "["+strings.Repeat(step+",", 64)+step+"]", "["+strings.Repeat("1,", 64)+"1]")
	}
	return nil, nil
}
