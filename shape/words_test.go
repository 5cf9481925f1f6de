package shape_test

import (
	"cmp"
	"math/big"
	"slices"
	"strings"

	"docket/api"
	"docket/dotpath"
	"docket/jsonval"
	"docket/order"
)

// The chapter's words, written plainly: what the package answers is held against what they say.

type pair struct {
	name string
	item api.Value
}

func pairsOf(v api.Value) []pair {
	var l []pair
	for i := 0; i < len(v.Names) && i < len(v.Items); i++ {
		l = append(l, pair{v.Names[i], v.Items[i]})
	}
	return l
}

func isInt(v api.Value, x int64) bool { return v.Kind == api.Int && v.Int == x }

// orderByWords is P6.1: its paths, and which of them are falling.
func orderByWords(v api.Value) ([]string, []bool, api.Errno) {
	if v.Kind != api.Object {
		return nil, nil, api.ErrSort
	}
	l := pairsOf(v)
	if len(l) > 8 {
		return nil, nil, api.ErrMany
	}
	var paths []string
	var falling []bool
	for _, p := range l {
		if _, e, _ := dotpath.Parse(p.name); e != api.OK {
			return nil, nil, api.ErrPath
		}
		if !isInt(p.item, 1) && !isInt(p.item, -1) {
			return nil, nil, api.ErrSort
		}
		if slices.Contains(paths, p.name) {
			return nil, nil, api.ErrSort
		}
		paths, falling = append(paths, p.name), append(falling, p.item.Int < 0)
	}
	return paths, falling, api.OK
}

// candidatesByWords are those of P6.2 and P6.7.
func candidatesByWords(v api.Value, path []string) []api.Value {
	var l []api.Value
	for _, x := range dotpath.All(v, path) {
		if x.Kind != api.List || len(x.Items) == 0 {
			l = append(l, x)
			continue
		}
		for _, item := range x.Items {
			l = append(l, item)
		}
	}
	return l
}

// keyByWords is P6.2.
func keyByWords(v api.Value, path string, falling bool) api.Value {
	l := candidatesByWords(v, strings.Split(path, "."))
	if len(l) == 0 {
		return api.Value{}
	}
	key := l[0]
	for _, x := range l {
		if !falling && order.Compare(x, key) < 0 || falling && order.Compare(x, key) > 0 {
			key = x
		}
	}
	return key
}

// compareByWords is P6.3.
func compareByWords(paths []string, falling []bool, a, b api.Doc) int {
	for i, path := range paths {
		c := order.Compare(keyByWords(a.Value, path, falling[i]), keyByWords(b.Value, path, falling[i]))
		if c != 0 && falling[i] {
			return -c
		}
		if c != 0 {
			return c
		}
	}
	return cmp.Compare(a.Id, b.Id)
}

// inOrderByWords is P6.3: each document is put ahead of the first one that is behind it.
func inOrderByWords(paths []string, falling []bool, l []api.Doc) []api.Doc {
	var done []api.Doc
	for _, d := range l {
		at := len(done)
		for at > 0 && compareByWords(paths, falling, d, done[at-1]) < 0 {
			at--
		}
		done = slices.Insert(done, at, d)
	}
	return done
}

// fieldsByWords is P6.4: the paths, and whether they let in.
func fieldsByWords(v api.Value) ([][]string, bool, api.Errno) {
	if v.Kind != api.Object {
		return nil, false, api.ErrFields
	}
	l := pairsOf(v)
	if len(l) > 32 {
		return nil, false, api.ErrMany
	}
	var paths [][]string
	for _, p := range l {
		path, e, _ := dotpath.Parse(p.name)
		if e != api.OK {
			return nil, false, api.ErrPath
		}
		for _, segment := range path {
			if _, number := dotpath.Index(segment); number {
				return nil, false, api.ErrPath
			}
		}
		if !isInt(p.item, 0) && !isInt(p.item, 1) {
			return nil, false, api.ErrFields
		}
		if p.item.Int != l[0].item.Int {
			return nil, false, api.ErrBoth
		}
		for _, other := range paths {
			n := min(len(path), len(other))
			if slices.Equal(path[:n], other[:n]) {
				return nil, false, api.ErrClash
			}
		}
		paths = append(paths, path)
	}
	return paths, len(l) > 0 && l[0].item.Int == 1, api.OK
}

func hasParts(v api.Value) bool { return v.Kind == api.Object || v.Kind == api.List }

// rests are those of the paths that have the name as their first segment, and whether one ends there.
func rests(paths [][]string, name string) (l [][]string, ends bool) {
	for _, path := range paths {
		if path[0] == name && len(path) == 1 {
			ends = true
		} else if path[0] == name {
			l = append(l, path[1:])
		}
	}
	return l, ends
}

// letIn is P6.5, of paths that let in.
func letIn(paths [][]string, v api.Value) api.Value {
	made := api.Value{Kind: v.Kind}
	switch v.Kind {
	case api.Object:
		for _, p := range pairsOf(v) {
			further, ends := rests(paths, p.name)
			switch {
			case ends:
				made.Names, made.Items = append(made.Names, p.name), append(made.Items, p.item)
			case len(further) > 0 && hasParts(p.item):
				made.Names, made.Items = append(made.Names, p.name), append(made.Items, letIn(further, p.item))
			}
		}
		return made
	case api.List:
		for _, item := range v.Items {
			if hasParts(item) {
				made.Items = append(made.Items, letIn(paths, item))
			}
		}
		return made
	}
	return v
}

// leftOut is P6.5, of paths that leave out.
func leftOut(paths [][]string, v api.Value) api.Value {
	made := api.Value{Kind: v.Kind}
	switch v.Kind {
	case api.Object:
		for _, p := range pairsOf(v) {
			further, ends := rests(paths, p.name)
			if ends {
				continue
			}
			if len(further) > 0 {
				p.item = leftOut(further, p.item)
			}
			made.Names, made.Items = append(made.Names, p.name), append(made.Items, p.item)
		}
		return made
	case api.List:
		for _, item := range v.Items {
			made.Items = append(made.Items, leftOut(paths, item))
		}
		return made
	}
	return v
}

// applyByWords is P6.5.
func applyByWords(paths [][]string, in bool, v api.Value) api.Value {
	switch {
	case len(paths) == 0:
		return v
	case in:
		return letIn(paths, v)
	}
	return leftOut(paths, v)
}

// windowByWords is P6.6, in numbers without a bound.
func windowByWords(n int, skip, limit int64) (int, int) {
	if n < 0 {
		return 0, 0
	}
	least := func(a, b *big.Int) *big.Int {
		if a.Cmp(b) < 0 {
			return a
		}
		return b
	}
	all, from := big.NewInt(int64(n)), big.NewInt(skip)
	if skip < 0 {
		from = big.NewInt(0)
	}
	from = least(all, from)
	to := all
	if limit > 0 {
		to = least(all, new(big.Int).Add(from, big.NewInt(limit)))
	}
	return int(from.Int64()), int(to.Int64())
}

// distinctByWords is P6.7: what came is taken up if it is new, ahead of the first one that is behind it.
func distinctByWords(l []api.Doc, path []string) []api.Value {
	var done []api.Value
	for _, d := range l {
		for _, v := range candidatesByWords(d.Value, path) {
			if slices.ContainsFunc(done, func(x api.Value) bool { return jsonval.Equal(x, v) }) {
				continue
			}
			at := len(done)
			for at > 0 && order.Compare(v, done[at-1]) < 0 {
				at--
			}
			done = slices.Insert(done, at, v)
		}
	}
	return done
}
