package update_test

import (
	"math/big"
	"regexp"
	"slices"
	"strconv"
	"strings"

	"docket/api"
	"docket/dotpath"
	"docket/filter"
	"docket/jsonval"
	"docket/order"
)

// The chapter's words, as plainly as they stand there: the operators are gone through as they are each time, without being read ahead.

var (
	segmentForm = regexp.MustCompile(`(?s)^[^$.][^.]{0,63}$`)
	itemsForm   = regexp.MustCompile(`(?s)^\$\[[a-zA-Z0-9]{0,64}\]$`)
	filterForm  = regexp.MustCompile(`(?s)^([a-zA-Z0-9]{1,64})(\.(.*))?$`)
)

// bytewise makes a character of each byte, so that a form counts bytes.
func bytewise(text string) string {
	var l []rune
	for _, b := range []byte(text) {
		l = append(l, rune(b))
	}
	return string(l)
}

func isUpdatePath(text string) bool {
	parts := strings.Split(bytewise(text), ".")
	for i, part := range parts {
		if !segmentForm.MatchString(part) && (i == 0 || !itemsForm.MatchString(part)) {
			return false
		}
	}
	return len(parts) <= api.MaxSegments
}

func isPlainPath(text string) bool { return isUpdatePath(text) && !strings.Contains("."+text, ".$") }

func clash(a, b string) bool {
	p, q := strings.Split(a, "."), strings.Split(b, ".")
	for i := range min(len(p), len(q)) {
		if p[i] != q[i] && p[i][0] != '$' && q[i][0] != '$' {
			return false
		}
	}
	return true
}

func isObject(v api.Value) bool { return v.Kind == api.Object && len(v.Names) > 0 }

func beginsWithDollar(v api.Value) bool { return isObject(v) && strings.HasPrefix(v.Names[0], "$") }

// words goes through an update, and holds what it has met.
type words struct {
	terms []wordTerm
	texts []string
}

type wordTerm struct {
	verb, name string
	operand    api.Value
}

func (w *words) update(ops, filters api.Value) api.Errno {
	if e := jsonval.Check(ops); e != api.OK {
		return e
	}
	if e := jsonval.Check(filters); e != api.OK {
		return e
	}
	if !isObject(ops) {
		return api.ErrUpdate
	}
	for i, verb := range ops.Names {
		if !slices.Contains(verbs(), verb) {
			return api.ErrVerb
		}
		if !isObject(ops.Items[i]) {
			return api.ErrUpdate
		}
		for j, name := range ops.Items[i].Names {
			if e := w.term(wordTerm{verb, name, ops.Items[i].Items[j]}); e != api.OK {
				return e
			}
		}
	}
	return w.filters(filters)
}

func (w *words) term(t wordTerm) api.Errno {
	if len(w.terms) == api.MaxSteps {
		return api.ErrSteps
	}
	if !isUpdatePath(t.name) {
		return api.ErrPath
	}
	if e := t.give(); e != api.OK {
		return e
	}
	own := []string{t.name}
	if t.verb == "$rename" {
		own = append(own, t.operand.Text)
	}
	for _, text := range own {
		for _, ahead := range w.texts {
			if clash(text, ahead) {
				return api.ErrClash
			}
		}
		w.texts = append(w.texts, text)
	}
	w.terms = append(w.terms, t)
	return api.OK
}

// give is the error of an operand.
func (t wordTerm) give() api.Errno {
	x := t.operand
	each, there := jsonval.Has(x, "$each")
	fits := true
	switch t.verb {
	case "$inc", "$mul":
		fits = x.Kind == api.Int
	case "$rename":
		if x.Kind == api.Text && !isPlainPath(x.Text) {
			return api.ErrPath
		}
		fits = x.Kind == api.Text && isPlainPath(t.name)
	case "$push":
		if beginsWithDollar(x) {
			fits = there && each.Kind == api.List
			for i, name := range x.Names {
				number := (name == "$position" || name == "$slice") && x.Items[i].Kind == api.Int
				fits = fits && (name == "$each" || number)
			}
		}
	case "$addToSet":
		if beginsWithDollar(x) {
			fits = there && each.Kind == api.List && len(x.Names) == 1
		}
	case "$pop":
		fits = x.Kind == api.Int && (x.Int == 1 || x.Int == -1)
	case "$pull":
		if isObject(x) {
			_, e := filter.Parse(queryOf(x))
			return e
		}
	case "$pullAll":
		fits = x.Kind == api.List
	}
	if !fits {
		return api.ErrGive
	}
	return api.OK
}

func isTestOfItems(x api.Value) bool {
	return beginsWithDollar(x) && !slices.Contains([]string{"$and", "$or", "$nor"}, x.Names[0])
}

func queryOf(x api.Value) api.Value {
	if isTestOfItems(x) {
		return object("v", x)
	}
	return x
}

func (w *words) filters(l api.Value) api.Errno {
	if l.Kind != api.Null && l.Kind != api.List || len(l.Items) > 64 {
		return api.ErrFilters
	}
	all := "." + strings.Join(w.texts, ".") + "."
	had := map[string]bool{}
	for _, x := range l.Items {
		if x.Kind != api.Object || len(x.Names) != 1 {
			return api.ErrFilters
		}
		form := filterForm.FindStringSubmatch(x.Names[0])
		if form == nil || form[2] != "" && !isPlainPath(form[3]) || had[form[1]] || !strings.Contains(all, ".$["+form[1]+"].") {
			return api.ErrFilters
		}
		had[form[1]] = true
		if _, e := filter.Parse(object("v"+form[2], x.Items[0])); e != api.OK {
			return e
		}
	}
	for _, part := range strings.Split(all, ".") {
		if itemsForm.MatchString(part) && part != "$[]" && !had[part[2:len(part)-1]] {
			return api.ErrFilters
		}
	}
	return api.OK
}

// apply is the document behind all terms, or the first error and its term's number.
func (w *words) apply(d, filters api.Value, fresh bool) (api.Value, api.Errno, int) {
	if documentError(d) != api.OK {
		return api.Value{}, api.ErrDoc, 0
	}
	for i, t := range w.terms {
		if t.verb == "$setOnInsert" && !fresh {
			continue
		}
		places, e := placesOf(d, nil, strings.Split(t.name, "."), filters)
		if e == api.OK && len(places) > 256 {
			e = api.ErrBig
		}
		for _, place := range places {
			if e == api.OK {
				d, e = t.done(d, place)
			}
		}
		if e == api.OK {
			e = documentError(d)
		}
		if e != api.OK {
			return api.Value{}, e, i
		}
	}
	return d, api.OK, 0
}

func documentError(d api.Value) api.Errno {
	text, e := jsonval.Print(d)
	switch {
	case e == api.ErrLong && d.Kind == api.Object:
		return api.ErrBig
	case e != api.OK && e != api.ErrLong:
		return e
	case d.Kind != api.Object:
		return api.ErrDoc
	case len(text) > 16384:
		return api.ErrBig
	}
	return api.OK
}

// placesOf goes down to the end of the first place ahead of the second.
func placesOf(d api.Value, sofar, parts []string, filters api.Value) ([][]string, api.Errno) {
	if len(parts) == 0 {
		return [][]string{slices.Clone(sofar)}, api.OK
	}
	if parts[0][0] != '$' {
		return placesOf(d, append(slices.Clone(sofar), parts[0]), parts[1:], filters)
	}
	v, _ := dotpath.Get(d, sofar)
	if v.Kind != api.List {
		return nil, api.ErrWhere
	}
	var all [][]string
	for i, item := range v.Items {
		if !isMeant(item, parts[0][2:len(parts[0])-1], filters) {
			continue
		}
		l, e := placesOf(d, append(slices.Clone(sofar), strconv.Itoa(i)), parts[1:], filters)
		if e != api.OK {
			return nil, e
		}
		all = append(all, l...)
	}
	return all, api.OK
}

func isMeant(item api.Value, name string, filters api.Value) bool {
	for _, x := range filters.Items {
		if form := filterForm.FindStringSubmatch(x.Names[0]); form[1] == name {
			f, _ := filter.Parse(object("v"+form[2], x.Items[0]))
			return f.Match(object("v", item))
		}
	}
	return name == ""
}

// done is what the table says of a verb at a place.
func (t wordTerm) done(d api.Value, place []string) (api.Value, api.Errno) {
	x := t.operand
	v, there := dotpath.Get(d, place)
	put := func(x api.Value) (api.Value, api.Errno) { return dotpath.Set(d, place, x) }
	switch t.verb {
	case "$set", "$setOnInsert":
		return put(x)
	case "$unset":
		d, _ = dotpath.Unset(d, place)
	case "$inc", "$mul":
		n, e := t.reckoned(v, there)
		if e != api.OK {
			return d, e
		}
		return put(n)
	case "$min":
		if !there || order.Compare(x, v) == -1 {
			return put(x)
		}
	case "$max":
		if !there || order.Compare(v, x) == -1 {
			return put(x)
		}
	case "$rename":
		if there {
			d, _ = dotpath.Unset(d, place)
			return dotpath.Set(d, strings.Split(x.Text, "."), v)
		}
	default:
		grows := t.verb == "$push" || t.verb == "$addToSet"
		if there && v.Kind != api.List {
			return d, api.ErrKind
		}
		if there || grows {
			return put(jsonval.Listed(t.listed(v.Items)...))
		}
	}
	return d, api.OK
}

func (t wordTerm) reckoned(v api.Value, there bool) (api.Value, api.Errno) {
	x, y := big.NewInt(v.Int), big.NewInt(t.operand.Int)
	if there && v.Kind != api.Int {
		return v, api.ErrKind
	}
	if t.verb == "$inc" {
		x.Add(x, y)
	} else {
		x.Mul(x, y)
	}
	if !x.IsInt64() {
		return v, api.ErrOverflow
	}
	return jsonval.Of(x.Int64()), api.OK
}

func (t wordTerm) listed(items []api.Value) []api.Value {
	x := t.operand
	var l []api.Value
	switch t.verb {
	case "$push":
		return pushed(items, x)
	case "$addToSet":
		each := []api.Value{x}
		if beginsWithDollar(x) {
			each = x.Items[0].Items
		}
		l = append(l, items...)
		for _, item := range each {
			if !isAmong(l, item) {
				l = append(l, item)
			}
		}
	case "$pop":
		for i, item := range items {
			if x.Int == 1 && i < len(items)-1 || x.Int == -1 && i > 0 {
				l = append(l, item)
			}
		}
	case "$pull":
		for _, item := range items {
			if !isPulled(item, x) {
				l = append(l, item)
			}
		}
	case "$pullAll":
		for _, item := range items {
			if !isAmong(x.Items, item) {
				l = append(l, item)
			}
		}
	}
	return l
}

func isAmong(l []api.Value, x api.Value) bool {
	return slices.ContainsFunc(l, func(item api.Value) bool { return jsonval.Equal(item, x) })
}

func isPulled(item, x api.Value) bool {
	f, _ := filter.Parse(queryOf(x))
	switch {
	case isTestOfItems(x):
		return f.Match(object("v", item))
	case isObject(x):
		return item.Kind == api.Object && f.Match(item)
	}
	return jsonval.Equal(item, x)
}

// pushed lays one item behind the other, each a place further, and takes off one by one what does not stay.
func pushed(items []api.Value, x api.Value) []api.Value {
	if !beginsWithDollar(x) {
		return append(slices.Clone(items), x)
	}
	l := slices.Clone(items)
	at := int64(len(l))
	if n, there := jsonval.Has(x, "$position"); there && n.Int < 0 {
		at = max(at+n.Int, 0)
	} else if there && n.Int < at {
		at = n.Int
	}
	each, _ := jsonval.Has(x, "$each")
	for i, item := range each.Items {
		l = slices.Insert(l, int(at)+i, item)
	}
	n, there := jsonval.Has(x, "$slice")
	for there && n.Int >= 0 && int64(len(l)) > n.Int {
		l = l[:len(l)-1]
	}
	for there && n.Int < 0 && int64(len(l))+n.Int > 0 {
		l = l[1:]
	}
	return l
}
