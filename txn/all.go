package txn

import (
	"slices"

	"docket/api"
	"docket/ident"
	"docket/jsonval"
	"docket/request"
)

// Keys: P20.4.
func Keys(steps []api.Request) []string {
	var keys []string
	for _, r := range steps {
		keys = append(keys, ident.Join(r.In, r.Id))
	}
	slices.Sort(keys)
	return slices.Compact(keys)
}

// Store is where documents are, as All sees them.
type Store interface {
	Item(in, id string) (api.Item, bool, api.Errno)
	Commit(in string, was, now []api.Item) api.Errno
}

// All: P20.5.
func All(s Store, steps []api.Request, mode int, stamp int64) ([]api.Value, []api.Change, api.Errno, int) {
	if mode != api.ModeAll && mode != api.ModeStop && mode != api.ModeEach {
		return nil, nil, api.ErrArg, -1
	}
	var results []api.Value
	var changes []api.Change
	for i, r := range steps {
		o := done(s, r, stamp)
		if o.E != api.OK && mode == api.ModeAll {
			return nil, nil, o.E, i
		}
		results = append(results, resultOf(r, o, stamp))
		if kind := Kind(o); kind != 0 {
			changes = append(changes, api.Change{Stamp: stamp, In: r.In, Id: r.Id, Kind: kind})
		}
		if o.E != api.OK && mode == api.ModeStop {
			break
		}
	}
	return results, changes, api.OK, -1
}

// done is the outcome of a step on s. A nil Store can be asked nothing: so each step is refused, as no call may panic.
func done(s Store, r api.Request, stamp int64) api.Outcome {
	if s == nil {
		return failed(api.ErrArg)
	}
	was, there, e := s.Item(r.In, r.Id)
	if e != api.OK {
		return failed(e)
	}
	o := One(r, was, there, stamp)
	if o.E != api.OK {
		return o
	}
	if e := s.Commit(r.In, itemIf(o.There, o.Was), itemIf(o.Is, o.Now)); e != api.OK {
		return failed(e)
	}
	return o
}

func itemIf(there bool, x api.Item) []api.Item {
	if !there {
		return nil
	}
	return []api.Item{x}
}

func resultOf(r api.Request, o api.Outcome, stamp int64) api.Value {
	if o.E != api.OK {
		return result(false, []string{"error"}, jsonval.Word(request.Name(o.E)))
	}
	names, items := Told(r, o, stamp)
	return result(true, names, items...)
}

func result(ok bool, names []string, items ...api.Value) api.Value {
	return jsonval.Named(append([]string{"ok"}, names...), append([]api.Value{jsonval.Flag(ok)}, items...)...)
}
