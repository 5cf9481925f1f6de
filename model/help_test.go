package model_test

import (
	"fmt"
	"math/rand"
	"slices"
	"strings"
	"testing"

	"docket/api"
	"docket/catalog"
	"docket/jsonval"
	"docket/model"
	"docket/request"
	"docket/watch"
)

// The numbers as the document has them, so that a test does not follow a number that another one stands for.
const (
	maxCursors = 4
	maxBatch   = 256
	usualBatch = 32
	maxKeep    = 4096
	maxMade    = 4096
	maxText    = 65536
	maxStamp   = 1 << 62

	isOK     = 0
	isArg    = 2
	isUnique = 171
	isSchema = 212
	isColl   = 222

	inserted = 1
	updated  = 2
	deleted  = 3
)

func TestNumbers(t *testing.T) {
	for _, c := range [][2]int{
		{maxCursors, api.MaxCursors}, {maxBatch, api.MaxBatch}, {maxKeep, api.MaxKeep}, {maxMade, api.MaxMade}, {maxText, api.MaxText}, {maxStamp, api.MaxStamp},
		{isOK, int(api.OK)}, {isArg, int(api.ErrArg)}, {isUnique, int(api.ErrUnique)}, {isSchema, int(api.ErrSchema)}, {isColl, int(api.ErrColl)},
		{inserted, api.ChangeInsert}, {updated, api.ChangeUpdate}, {deleted, api.ChangeDelete},
	} {
		if c[0] != c[1] {
			t.Error(c)
		}
	}
}

// quoted is a text in which a ' stands for each ".
func quoted(text string) string { return strings.ReplaceAll(text, "'", `"`) }

func val(text string) api.Value {
	v, e, at := jsonval.Parse(quoted(text))
	if e != isOK {
		panic(fmt.Sprint(text, ": ", e, " at ", at))
	}
	return v
}

// ask is the request of a text, in which a ' stands for each ".
func ask(text string) api.Request {
	r, e, at := request.Parse(quoted(text))
	if e != isOK {
		panic(fmt.Sprint(text, ": ", e, " at ", at))
	}
	return r
}

// items reads some from texts as `a@3 {'t':5}`: the Key, the version, the value.
func items(texts ...string) []api.Item {
	var l []api.Item
	for _, text := range texts {
		name, value, _ := strings.Cut(text, " ")
		var x api.Item
		key, version, _ := strings.Cut(name, "@")
		if _, err := fmt.Sscan(version, &x.Version); err != nil {
			panic(err)
		}
		x.Key, x.Value = key, val(value)
		l = append(l, x)
	}
	return l
}

// tell is a Value in full, also one that no text says.
func tell(v api.Value) string {
	if text, e := jsonval.Print(v); e == isOK {
		return text
	}
	return fmt.Sprintf("%+v", v)
}

func tellItems(l []api.Item) string {
	var all []string
	for _, x := range l {
		all = append(all, fmt.Sprint(x.Key, "@", x.Version, " ", tell(x.Value)))
	}
	return strings.Join(all, ", ")
}

func tellColls(l []api.Coll) string {
	var all []string
	for _, k := range l {
		all = append(all, fmt.Sprintf("%s %d/%d %s %v %v", k.Name, k.Count, k.Most, tell(k.Schema), k.Top, k.Specs))
	}
	return strings.Join(all, "; ")
}

func tellEdits(l []api.Moves) string {
	var all []string
	for _, m := range l {
		line := m.In + ":"
		for _, x := range m.Edits {
			line += " " + tellItems([]api.Item{x.Item})
			if x.Gone {
				line += " gone"
			}
		}
		all = append(all, line)
	}
	return strings.Join(all, "; ")
}

// collsOf is what a catalog tells of all its collections.
func collsOf(c *catalog.Catalog) []api.Coll {
	var l []api.Coll
	for _, name := range c.Names() {
		k, _ := c.Coll(name)
		l = append(l, k)
	}
	return l
}

// tellCatalog is all of a catalog, its indexes by what they tell of some needs; with none it says so.
func tellCatalog(c *catalog.Catalog) string {
	if c == nil {
		return "none"
	}
	all := []string{tellColls(collsOf(c))}
	for _, k := range collsOf(c) {
		for _, s := range k.Specs {
			alone := c
			for _, other := range k.Specs {
				if other != s {
					alone, _ = alone.Unindex(k.Name, other.Name)
				}
			}
			for _, text := range []string{"null", "false", "0", "1", "2", "3", "5", "'x'", "[]", "[1,2]", "{}"} {
				ids, _, _ := alone.Choose(k.Name, []api.Need{{Path: s.Path, Op: api.NeedGte, Value: val(text)}})
				all = append(all, fmt.Sprint(s.Name, " ", text, ids))
			}
		}
	}
	return strings.Join(all, "; ")
}

func tellEffect(x model.Effect) string {
	return fmt.Sprint("cat ", tellCatalog(x.Cat), "\nedits ", tellEdits(x.Edits), "\nchanges ", x.Changes, "\nreply ", x.Reply)
}

// tellState is what a state tells of itself without a request.
func tellState(s *model.State) string {
	return fmt.Sprint(s.Stamp(), "\n", tellItems(s.Docs()), "\n", tellColls(s.Colls()))
}

// stocked is a catalog with the one collection c, with documents and indexes: each index is given as name:path, with a ! behind it if it is unique.
func stocked(t *testing.T, docs []api.Item, indexes ...string) *catalog.Catalog {
	t.Helper()
	c, e := catalog.New().Create("c", 0, api.Value{})
	if e != isOK {
		t.Fatal(e)
	}
	if c, e = c.Commit("c", nil, docs); e != isOK {
		t.Fatal(e)
	}
	for _, text := range indexes {
		name, path, _ := strings.Cut(text, ":")
		path, unique := strings.CutSuffix(path, "!")
		if c, e = c.Index("c", api.Spec{Name: name, Path: path, Unique: unique}, docs); e != isOK {
			t.Fatal(e)
		}
	}
	return c
}

// logOf is a log that keeps so many, with changes of the document a of c, one for each stamp.
func logOf(t *testing.T, keep int, stamps ...int64) *watch.Log {
	t.Helper()
	l, e := watch.New(keep)
	if e != isOK {
		t.Fatal(e)
	}
	for i, stamp := range stamps {
		l = l.With(stamp, api.Change{In: "c", Id: "a", Kind: i%3 + 1})
	}
	return l
}

func empty(t *testing.T, keep int) *model.State {
	t.Helper()
	s, e := model.New(keep)
	if e != isOK || s == nil {
		t.Fatal(s, e)
	}
	return s
}

// stepped is a state behind requests of the client 0, none of which is refused.
func stepped(t *testing.T, s *model.State, raws ...string) *model.State {
	t.Helper()
	for _, raw := range raws {
		next, reply := s.Step(0, quoted(raw))
		if !strings.HasPrefix(reply, `{"ok":true`) {
			t.Fatalf("%s: %s", raw, reply)
		}
		s = next
	}
	return s
}

// wantStep steps a state, and holds the reply against want, in which a ' stands for each ".
func wantStep(t *testing.T, s *model.State, client int, raw, want string) *model.State {
	t.Helper()
	next, reply := s.Step(client, quoted(raw))
	if next == nil || reply != quoted(want) {
		t.Errorf("%s:\n%s, not\n%s", raw, reply, quoted(want))
	}
	return next
}

func wantText(t *testing.T, what, got, want string) {
	t.Helper()
	if got != want {
		t.Errorf("%s:\n%s, not\n%s", what, got, want)
	}
}

func wantList(t *testing.T, what string, got []string, want ...string) {
	t.Helper()
	if !slices.Equal(got, want) {
		t.Errorf("%s: %q, not %q", what, got, want)
	}
}

// dice makes what is the same in each run, of few parts, so that much of it meets.
type dice struct{ *rand.Rand }

func newDice(seed int64) dice { return dice{rand.New(rand.NewSource(seed))} }

func pick[T any](d dice, from ...T) T { return from[d.Intn(len(from))] }

func (d dice) one(in int) bool { return d.Intn(in) == 0 }

// coll is such that a name is above another whose keys are above its own.
func (d dice) coll() string { return pick(d, "c", "c", "c", "c-1", "d") }

func (d dice) id() string { return pick(d, "a", "b", "x", "/", "~") }

func (d dice) small() string {
	return pick(d, "null", "true", "1", "2", "3", "5", "'x'", "[1,2]", "[]", "[5,'x']", "{}", "{'u':1}")
}

func (d dice) document() string {
	return pick(d, "{}", "{'n':1}", "{'n':"+d.small()+"}", "{'n':"+d.small()+",'t':"+d.small()+"}", "{'t':"+d.small()+",'n':"+fmt.Sprint(d.Intn(6))+"}", "{'n':"+fmt.Sprint(d.Intn(3))+"}")
}

func (d dice) query() string {
	return pick(d, "{}", "{'n':1}", "{'n':"+d.small()+"}", "{'n':{'$gt':"+d.small()+"}}", "{'t':{'$in':["+d.small()+","+d.small()+"]},'n':{'$lte':"+d.small()+"}}", "{'n':{'$gte':1},'t':"+d.small()+"}", "{'n':{'$ne':1}}", "{'$or':[{'n':1},{'t':2}]}")
}

func (d dice) fields() string {
	return pick(d, "{}", "{'n':1}", "{'n':0}", "{'t.u':1}")
}

func (d dice) ops() string {
	return pick(d, "{'$set':{'n':1}}", "{'$inc':{'n':1}}", "{'$inc':{'n':-1}}", "{'$set':{'n':"+d.small()+"}}", "{'$set':{'t':"+d.small()+",'n':1}}", "{'$unset':{'t':true}}", "{'$setOnInsert':{'t':7}}", "{'$push':{'t':1}}")
}

// maybe is a member of a request, or none.
func (d dice) maybe(name, text string) string {
	if d.one(2) {
		return ""
	}
	return ",'" + name + "':" + text
}

func (d dice) version(below int64) string {
	if d.one(4) {
		return ",'version':" + fmt.Sprint(1+d.Int63n(below+1))
	}
	return ""
}

// step is a change of one document, such as may be one of a txn.
func (d dice) step(below int64) string {
	in, id := "'in':'"+d.coll()+"'", "'id':'"+d.id()+"'"
	switch d.Intn(5) {
	case 0:
		return "{'op':'replace'," + in + "," + id + ",'value':" + d.document() + d.version(below) + "}"
	case 1:
		return "{'op':'update'," + in + "," + id + ",'ops':" + d.ops() + d.maybe("upsert", "true") + d.version(below) + "}"
	case 2:
		return "{'op':'delete'," + in + "," + id + d.version(below) + "}"
	}
	return "{'op':'insert'," + in + "," + id + ",'value':" + d.document() + "}"
}

func (d dice) txn(below int64) string {
	var steps []string
	for range 1 + d.Intn(6) {
		steps = append(steps, d.step(below))
	}
	return "{'op':'txn','steps':[" + strings.Join(steps, ",") + "]" + d.maybe("mode", pick(d, "'all'", "'stop'", "'each'")) + "}"
}

// change is a request that changes, at a state of the stamp below.
func (d dice) change(below int64) string {
	in, id := "'in':'"+d.coll()+"'", "'id':'"+d.id()+"'"
	switch d.Intn(14) {
	case 0:
		return "{'op':'create'," + in + d.maybe("most", fmt.Sprint(d.Intn(5))) + d.maybe("schema", pick(d, "null", "{'properties':{'n':{'type':['int','null']}}}", "{'max':1}")) + "}"
	case 1:
		return "{'op':'drop'," + in + "}"
	case 2, 12:
		return "{'op':'index'," + in + ",'name':'" + pick(d, "x", "y", "z") + "','path':'" + pick(d, "n", "n", "t", "t.u") + "'" + d.maybe("unique", pick(d, "true", "true", "false")) + "}"
	case 3:
		if d.one(2) {
			return "{'op':'unindex'," + in + ",'name':'" + pick(d, "x", "y", "z") + "'}"
		}
		return "{'op':'insert'," + in + ",'value':" + d.document() + "}"
	case 4:
		return "{'op':'modify'," + in + "," + id + ",'ops':" + d.ops() + d.maybe("upsert", "true") + d.maybe("new", "true") + d.maybe("fields", d.fields()) + d.version(below) + "}"
	case 5, 6, 7, 13:
		return d.txn(below)
	}
	return d.step(below)
}

// read is a request that reads.
func (d dice) read(below int64) string {
	in := "'in':'" + d.coll() + "'"
	switch d.Intn(9) {
	case 0:
		return "{'op':'get'," + in + ",'id':'" + d.id() + "'" + d.maybe("fields", d.fields()) + "}"
	case 1:
		return "{'op':'count'," + in + d.maybe("filter", d.query()) + "}"
	case 2:
		return "{'op':'distinct'," + in + ",'path':'" + pick(d, "n", "t", "t.u") + "'" + d.maybe("filter", d.query()) + "}"
	case 3:
		return "{'op':'aggregate'," + in + ",'pipe':" + pick(d, "[]", "[{'$match':"+d.query()+"},{'$count':'c'}]", "[{'$match':"+d.query()+"},{'$group':{'_id':'$n','l':{'$push':'$t'}}}]", "[{'$sort':{'n':-1}},{'$limit':2}]", "[{'$skip':1},{'$set':{'m':{'$add':['$n',1]}}}]") + "}"
	case 4:
		return "{'op':'explain'," + in + d.maybe("filter", d.query()) + "}"
	case 5:
		return "{'op':'changes','after':" + fmt.Sprint(max(0, below-d.Int63n(12))) + d.maybe("limit", fmt.Sprint(d.Intn(4))) + d.maybe("in", "'"+d.coll()+"'") + "}"
	case 6:
		return "{'op':'stat'}"
	}
	return "{'op':'scan'," + in + d.maybe("filter", d.query()) + d.maybe("sort", pick(d, "{'n':1}", "{'t':-1,'n':1}")) + d.maybe("skip", fmt.Sprint(d.Intn(3))) + d.maybe("limit", fmt.Sprint(d.Intn(4))) + d.maybe("fields", d.fields()) + "}"
}

// page is a request about cursors.
func (d dice) page() string {
	number := fmt.Sprint(1 + d.Intn(6))
	switch d.Intn(7) {
	case 0, 1, 2:
		return "{'op':'open','in':'" + d.coll() + "'" + d.maybe("filter", d.query()) + d.maybe("fields", d.fields()) + d.maybe("batch", fmt.Sprint(d.Intn(4))) + "}"
	case 3:
		return "{'op':'close','cursor':" + number + "}"
	}
	return "{'op':'next','cursor':" + number + "}"
}

// start is what a tree of states begins with, so that not all of it is asked of nothing.
func (d dice) start() []string {
	l := []string{"{'op':'create','in':'c'" + d.maybe("most", "3") + "}", "{'op':'create','in':'c-1'" + d.maybe("schema", "{'properties':{'n':{'type':['int','null']}}}") + "}"}
	if d.one(2) {
		l = append(l, "{'op':'index','in':'c','name':'x','path':'n'"+d.maybe("unique", "true")+"}")
	}
	return l
}

// raw is any request, now and then one that is none.
func (d dice) raw(below int64) string {
	switch d.Intn(20) {
	case 0:
		return quoted(pick(d, "", "{", "{'op':'go'}", "{'op':'get','in':'c'}", "{'op':'txn','steps':[{'op':'delete','in':'c','id':'a'},{'op':'get','in':'c','id':'a'}]}", "{'op':'scan','in':'c','filter':{'$x':1}}"))
	case 1, 2, 3, 4, 5:
		return quoted(d.read(below))
	case 6, 7, 8, 9:
		return quoted(d.page())
	}
	return quoted(d.change(below))
}
