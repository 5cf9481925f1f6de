package model_test

import (
	"fmt"
	"maps"
	"slices"
	"strconv"
	"strings"

	"docket/api"
	"docket/cursor"
	"docket/dotpath"
	"docket/filter"
	"docket/ident"
	"docket/jsonval"
	"docket/pipe"
	"docket/request"
	"docket/schema"
	"docket/shape"
	"docket/txn"
)

// kind is a collection as the chapter's words see it: all but its documents.
type kind struct {
	most  int
	rules api.Value
	specs []api.Spec
}

// held is a cursor that is open: the documents as they were, in their walk, and how many were told of those that it takes.
type held struct {
	number int64
	r      api.Request
	docs   []api.Item
	at     int
	done   bool
}

// plain is a state, as the chapter's words have it: all lists whole, all changes that ever were.
type plain struct {
	stamp  int64
	keep   int
	colls  map[string]kind
	docs   map[string]api.Item // by their whole keys; their Keys are ids
	log    []api.Change
	made   map[int]int64
	opened map[int]int64
	open   map[int][]held
}

func newPlain(keep int) plain {
	return plain{keep: keep, colls: map[string]kind{}, docs: map[string]api.Item{}, made: map[int]int64{}, opened: map[int]int64{}, open: map[int][]held{}}
}

func (p plain) copied() plain {
	p.colls, p.docs, p.made, p.opened, p.open = maps.Clone(p.colls), maps.Clone(p.docs), maps.Clone(p.made), maps.Clone(p.opened), maps.Clone(p.open)
	p.log = slices.Clone(p.log)
	for n := range p.open {
		p.open[n] = slices.Clone(p.open[n])
	}
	return p
}

// yes is a reply of names, each with its text behind it.
func yes(parts ...string) string {
	text := `{"ok":true`
	for i := 0; i < len(parts); i += 2 {
		text += "," + strconv.Quote(parts[i]) + ":" + parts[i+1]
	}
	if text += "}"; len(text) > maxText {
		return `{"ok":false,"error":"long"}`
	}
	return text
}

func no(e api.Errno, at int) string {
	text := `{"ok":false,"error":"` + request.Name(e) + `"`
	if at >= 0 {
		text += `,"at":` + strconv.Itoa(at)
	}
	return text + "}"
}

func num[T int | int64](n T) string { return fmt.Sprint(n) }

func listed(texts []string) string { return "[" + strings.Join(texts, ",") + "]" }

func listedValues(l []api.Value) string {
	var all []string
	for _, v := range l {
		all = append(all, tell(v))
	}
	return listed(all)
}

// members is an object's text.
func members(parts ...string) string {
	return strings.Replace(strings.Replace(yes(parts...), `"ok":true,`, "", 1), `"ok":true`, "", 1)
}

func docText(id string, version int64, v api.Value) string {
	return members("id", tell(jsonval.Word(id)), "version", num(version), "value", tell(v))
}

// in are the documents of a collection, by rising ids.
func (p plain) in(name string) []api.Item {
	var l []api.Item
	for key, x := range p.docs {
		if in, _, _ := strings.Cut(key, "/"); in == name {
			l = append(l, x)
		}
	}
	slices.SortFunc(l, func(a, b api.Item) int { return strings.Compare(a.Key, b.Key) })
	return l
}

func (p plain) names() []string { return slices.Sorted(maps.Keys(p.colls)) }

func takenBy(query api.Value, l []api.Item) []api.Doc {
	f, e := filter.Parse(query)
	if e != isOK {
		panic(e)
	}
	var docs []api.Doc
	for _, x := range l {
		if f.Match(x.Value) {
			docs = append(docs, api.Doc{Id: x.Key, Version: x.Version, Value: x.Value})
		}
	}
	return docs
}

func serves(s api.Spec, n api.Need) bool {
	null := func(v api.Value) bool { return v.Kind == api.Null }
	switch {
	case s.Path != n.Path:
		return false
	case n.Op == api.NeedEq:
		return !null(n.Value)
	case n.Op == api.NeedIn:
		return !slices.ContainsFunc(n.Value.Items, null)
	}
	return true
}

// chosen is which index of a collection is best for which need of a query, if any.
func (p plain) chosen(in string, query api.Value) (api.Spec, api.Need, bool) {
	f, _ := filter.Parse(query)
	rank := func(n api.Need) int { return map[int]int{api.NeedEq: 0, api.NeedIn: 1}[n.Op] }
	for _, ops := range [][]int{{api.NeedEq}, {api.NeedIn}, {api.NeedGt, api.NeedGte, api.NeedLt, api.NeedLte}} {
		for _, n := range f.Needs() {
			for _, s := range p.colls[in].specs {
				if slices.Contains(ops, n.Op) && serves(s, n) && rank(n) >= 0 {
					return s, n, true
				}
			}
		}
	}
	return api.Spec{}, api.Need{}, false
}

var operators = []string{"", "$eq", "$gt", "$gte", "$lt", "$lte", "$in"}

// meeting are the ids of the documents that a query may take, or that all are wanted.
func (p plain) meeting(in string, query api.Value) ([]string, bool) {
	_, n, there := p.chosen(in, query)
	if !there {
		return nil, true
	}
	var ids []string
	for _, d := range takenBy(jsonval.Named([]string{n.Path}, jsonval.Named([]string{operators[n.Op]}, n.Value)), p.in(in)) {
		ids = append(ids, d.Id)
	}
	return ids, false
}

func (p plain) wanted(r api.Request) ([]string, bool) {
	if _, there := p.colls[r.In]; !there {
		return nil, false
	}
	switch r.Op {
	case api.OpGet:
		return []string{r.Id}, false
	case api.OpScan, api.OpCount, api.OpDistinct, api.OpExplain:
		return p.meeting(r.In, r.Filter)
	case api.OpAggregate:
		if len(r.Pipe.Items) > 0 && r.Pipe.Items[0].Names[0] == "$match" {
			return p.meeting(r.In, r.Pipe.Items[0].Items[0])
		}
		return nil, true
	}
	return nil, false
}

// wantedItems are the documents that a read wants, as far as they are there.
func (p plain) wantedItems(r api.Request) []api.Item {
	ids, all := p.wanted(r)
	return slices.DeleteFunc(p.in(r.In), func(x api.Item) bool { return !all && !slices.Contains(ids, x.Key) })
}

// horizon is the stamp of the last change that has gone.
func (p plain) horizon() int64 {
	if gone := len(p.log) - p.keep; gone > 0 {
		return p.log[gone-1].Stamp
	}
	return 0
}

func (p plain) changes(r api.Request) string {
	if r.After < p.horizon() {
		return no(api.ErrHorizon, -1)
	}
	var due []api.Change
	last := r.After
	for _, x := range p.log {
		if x.Stamp > r.After && (r.In == "" || x.In == r.In) {
			due = append(due, x)
		}
		last = max(last, x.Stamp)
	}
	end := len(due)
	if r.Limit > 0 && int64(end) > r.Limit {
		end = int(r.Limit)
		for end > 0 && due[end].Stamp == due[end-1].Stamp {
			end--
		}
		for end < len(due) && due[end].Stamp == due[0].Stamp {
			end++
		}
	}
	if end < len(due) {
		last = due[end-1].Stamp
	}
	var all []string
	for _, x := range due[:end] {
		word := []string{"", "insert", "update", "delete"}[x.Kind]
		all = append(all, members("stamp", num(x.Stamp), "in", tell(jsonval.Word(x.In)), "id", tell(jsonval.Word(x.Id)), "kind", tell(jsonval.Word(word))))
	}
	return yes("stamp", num(p.stamp), "changes", listed(all), "next", num(last))
}

func (p plain) stat() string {
	var all []string
	for _, name := range p.names() {
		var specs []string
		for _, s := range p.colls[name].specs {
			specs = append(specs, members("name", tell(jsonval.Word(s.Name)), "path", tell(jsonval.Word(s.Path)), "unique", tell(jsonval.Flag(s.Unique))))
		}
		all = append(all, members("in", tell(jsonval.Word(name)), "count", num(len(p.in(name))), "most", num(p.colls[name].most), "indexes", listed(specs)))
	}
	return yes("stamp", num(p.stamp), "docs", num(len(p.docs)), "collections", listed(all))
}

func (p plain) scan(r api.Request) string {
	s, _ := shape.ParseSort(r.Sort)
	f, _ := shape.ParseFields(r.Fields)
	var all []string
	for i, d := range s.Order(takenBy(r.Filter, p.in(r.In))) {
		if int64(i) >= r.Skip && (r.Limit <= 0 || int64(i) < r.Skip+r.Limit) {
			all = append(all, docText(d.Id, d.Version, f.Apply(d.Value)))
		}
	}
	return yes("stamp", num(p.stamp), "docs", listed(all))
}

// read tells what all documents tell: no index has a part in it, but what explain says.
func (p plain) read(r api.Request) string {
	switch r.Op {
	case api.OpChanges:
		return p.changes(r)
	case api.OpStat:
		return p.stat()
	case api.OpGet, api.OpScan, api.OpCount, api.OpDistinct, api.OpAggregate, api.OpExplain:
	default:
		return no(api.ErrArg, -1)
	}
	if _, there := p.colls[r.In]; !there {
		return no(api.ErrColl, -1)
	}
	switch r.Op {
	case api.OpGet:
		x, there := p.docs[r.In+"/"+r.Id]
		if !there {
			return no(api.ErrNone, -1)
		}
		f, _ := shape.ParseFields(r.Fields)
		return yes("version", num(x.Version), "value", tell(f.Apply(x.Value)))
	case api.OpScan:
		return p.scan(r)
	case api.OpCount:
		return yes("stamp", num(p.stamp), "count", num(len(takenBy(r.Filter, p.in(r.In)))))
	case api.OpDistinct:
		path, _, _ := dotpath.Parse(r.Path)
		return yes("stamp", num(p.stamp), "values", listedValues(shape.Distinct(takenBy(r.Filter, p.in(r.In)), path)))
	case api.OpAggregate:
		stages, _, _ := pipe.Parse(r.Pipe)
		var l []api.Value
		for _, x := range p.in(r.In) {
			l = append(l, x.Value)
		}
		l, e, at := stages.Run(l)
		if e != isOK {
			return no(e, at)
		}
		return yes("stamp", num(p.stamp), "values", listedValues(l))
	}
	index, looked := "null", len(p.wantedItems(r))
	if s, _, there := p.chosen(r.In, r.Filter); there {
		index = tell(jsonval.Word(s.Name))
	}
	return yes("stamp", num(p.stamp), "index", index, "looked", num(looked), "matched", num(len(takenBy(r.Filter, p.in(r.In)))))
}

// entries are the values that a document has in an index.
func entries(s api.Spec, v api.Value) []api.Value {
	path, _, _ := dotpath.Parse(s.Path)
	var l []api.Value
	for _, x := range dotpath.All(v, path) {
		l = append(l, x)
		if x.Kind == api.List {
			l = append(l, x.Items...)
		}
	}
	return l
}

func meet(a, b []api.Value) bool {
	return slices.ContainsFunc(a, func(x api.Value) bool {
		return slices.ContainsFunc(b, func(y api.Value) bool { return jsonval.Equal(x, y) })
	})
}

// alone is whether no two documents have a value of an index in common.
func alone(s api.Spec, l []api.Item) bool {
	for i, x := range l {
		for _, y := range l[:i] {
			if meet(entries(s, x.Value), entries(s, y.Value)) {
				return false
			}
		}
	}
	return true
}

// Item makes a plain state a Store for chapter 20.
func (p plain) Item(in, id string) (api.Item, bool, api.Errno) {
	if _, there := p.colls[in]; !there {
		return api.Item{}, false, isColl
	}
	x, there := p.docs[in+"/"+id]
	return x, there, isOK
}

// Commit is what the catalog says of a document that becomes another.
func (p plain) Commit(in string, was, now []api.Item) api.Errno {
	k, there := p.colls[in]
	if !there {
		return isColl
	}
	for _, x := range now {
		if k.rules.Kind != api.Null {
			rules, _ := schema.Parse(k.rules)
			if rules.Check(x.Value) != isOK {
				return isSchema
			}
		}
	}
	next := p.copied()
	for _, x := range was {
		delete(next.docs, in+"/"+x.Key)
	}
	for _, x := range now {
		next.docs[in+"/"+x.Key] = x
	}
	if len(next.docs) > len(p.docs) && len(next.in(in)) > k.most {
		return api.ErrFull
	}
	for _, s := range k.specs {
		if s.Unique && !alone(s, next.in(in)) {
			return isUnique
		}
	}
	clear(p.docs)
	maps.Copy(p.docs, next.docs)
	return isOK
}

// change is a changing request at p, which becomes what it makes; with an error p stays, but for the stamp.
func (p plain) change(client int, r api.Request) (plain, string) {
	next := p.copied()
	if r.Op == api.OpInsert && r.Id == "" {
		r.Id, _ = ident.NewMaker(uint64(client), uint64(p.made[client])).Next()
		next.made[client]++
	}
	next.stamp++
	refused := next.copied()
	reply, e, at := next.done(r)
	if e != isOK {
		return refused, no(e, at)
	}
	return next, reply
}

// done changes p's maps.
func (p *plain) done(r api.Request) (string, api.Errno, int) {
	k, there := p.colls[r.In]
	name := func(s api.Spec) bool { return s.Name == r.Name }
	switch r.Op {
	case api.OpCreate:
		switch {
		case there:
			return "", api.ErrThere, -1
		case r.Most > 100000:
			return "", api.ErrCapacity, -1
		}
		if r.Schema.Kind != api.Null {
			if _, e := schema.Parse(r.Schema); e != isOK {
				return "", e, -1
			}
		}
		k = kind{most: int(r.Most), rules: r.Schema}
		if k.most == 0 {
			k.most = 100000
		}
		p.colls[r.In] = k
		return yes("stamp", num(p.stamp)), isOK, -1
	case api.OpTxn:
		results, changes, e, at := txn.All(*p, r.Steps, r.Mode, p.stamp)
		p.log = append(p.log, changes...)
		return yes("stamp", num(p.stamp), "results", listedValues(results)), e, at
	}
	if !there {
		return "", isColl, -1
	}
	switch r.Op {
	case api.OpDrop:
		if len(p.in(r.In)) > 0 {
			return "", api.ErrNotEmpty, -1
		}
		delete(p.colls, r.In)
		return yes("stamp", num(p.stamp)), isOK, -1
	case api.OpIndex:
		s := api.Spec{Name: r.Name, Path: r.Path, Unique: r.Unique}
		switch {
		case slices.ContainsFunc(k.specs, name):
			return "", api.ErrThere, -1
		case len(k.specs) == 8:
			return "", api.ErrFull, -1
		case s.Unique && !alone(s, p.in(r.In)):
			return "", isUnique, -1
		}
		k.specs = append(slices.Clone(k.specs), s)
	case api.OpUnindex:
		if !slices.ContainsFunc(k.specs, name) {
			return "", api.ErrNone, -1
		}
		k.specs = slices.DeleteFunc(slices.Clone(k.specs), name)
	default:
		return p.changeOne(r)
	}
	p.colls[r.In] = k
	return yes("stamp", num(p.stamp)), isOK, -1
}

func (p *plain) changeOne(r api.Request) (string, api.Errno, int) {
	was, there := p.docs[r.In+"/"+r.Id]
	o := txn.One(r, was, there, p.stamp)
	if o.E != isOK {
		return "", o.E, -1
	}
	var old, now []api.Item
	if o.There {
		old = append(old, o.Was)
	}
	if o.Is {
		now = append(now, o.Now)
	}
	if e := p.Commit(r.In, old, now); e != isOK {
		return "", e, -1
	}
	if k := txn.Kind(o); k != 0 {
		p.log = append(p.log, api.Change{Stamp: p.stamp, In: r.In, Id: r.Id, Kind: k})
	}
	names, values := txn.Told(r, o, p.stamp)
	var parts []string
	for i, name := range names {
		parts = append(parts, name, tell(values[i]))
	}
	return yes(parts...), isOK, -1
}

// page is what is told of a cursor next, and the cursor behind it.
func (h held) page() (held, string) {
	batch := int(h.r.Batch)
	if batch == 0 {
		batch = usualBatch
	}
	f, _ := filter.Parse(h.r.Filter)
	fields, _ := shape.ParseFields(h.r.Fields)
	var all []string
	for ; h.at < len(h.docs) && len(all) < batch; h.at++ {
		if x := h.docs[h.at]; f.Match(x.Value) {
			all = append(all, docText(x.Key, x.Version, fields.Apply(x.Value)))
		}
	}
	h.done = h.done || len(all) < batch
	return h, yes("docs", listed(all), "done", fmt.Sprint(h.done))
}

func (p plain) cursors(client int, r api.Request) (plain, string) {
	next := p.copied()
	mine := next.open[client]
	at := slices.IndexFunc(mine, func(h held) bool { return h.number == r.Cursor })
	if r.Op == api.OpOpen {
		_, there := p.colls[r.In]
		switch {
		case len(mine) == maxCursors:
			return p, no(api.ErrFull, -1)
		case !there:
			return p, no(isColl, -1)
		}
		next.opened[client]++
		number := next.opened[client]
		next.open[client] = append(mine, held{number: number, r: r, docs: cursor.Order(p.in(r.In))})
		return next, yes("cursor", num(number), "stamp", num(p.stamp))
	}
	if at < 0 {
		return p, no(api.ErrNone, -1)
	}
	if r.Op == api.OpClose {
		next.open[client] = slices.Delete(mine, at, at+1)
		return next, yes()
	}
	h, reply := mine[at].page()
	mine[at] = h
	return next, reply
}

// step is the chapter's Step.
func (p plain) step(client int, raw string) (plain, string) {
	r, e, at := request.Parse(raw)
	switch {
	case e != isOK:
		return p, no(e, at)
	case r.Op == api.OpOpen || r.Op == api.OpNext || r.Op == api.OpClose:
		return p.cursors(client, r)
	case request.Stamped(r.Op):
		return p.change(client, r)
	}
	return p, p.read(r)
}

func (p plain) keyed() []api.Item {
	var l []api.Item
	for key, x := range p.docs {
		x.Key = key
		l = append(l, x)
	}
	slices.SortFunc(l, func(a, b api.Item) int { return strings.Compare(a.Key, b.Key) })
	return l
}

func (p plain) collections() []api.Coll {
	var l []api.Coll
	for _, name := range p.names() {
		k := p.colls[name]
		l = append(l, api.Coll{Name: name, Count: len(p.in(name)), Most: k.most, Schema: k.rules, Specs: k.specs})
	}
	return l
}

func (p plain) tell() string {
	return fmt.Sprint(p.stamp, "\n", tellItems(p.keyed()), "\n", tellColls(p.collections()))
}

// edits are in what documents two states differ, by rising collections, and rising ids.
func (p plain) edits(next plain) []api.Moves {
	var l []api.Moves
	for _, in := range next.names() {
		m := api.Moves{In: in}
		for _, x := range next.in(in) {
			if y, there := p.docs[in+"/"+x.Key]; !there || y.Version != x.Version || !jsonval.Equal(x.Value, y.Value) {
				m.Edits = append(m.Edits, api.Edit{Item: x})
			}
		}
		for _, y := range p.in(in) {
			if _, there := next.docs[in+"/"+y.Key]; !there {
				m.Edits = append(m.Edits, api.Edit{Item: api.Item{Key: y.Key}, Gone: true})
			}
		}
		slices.SortFunc(m.Edits, func(a, b api.Edit) int { return strings.Compare(a.Item.Key, b.Item.Key) })
		if len(m.Edits) > 0 {
			l = append(l, m)
		}
	}
	return l
}
