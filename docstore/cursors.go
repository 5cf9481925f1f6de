package docstore

import (
	"slices"

	"docket/api"
	"docket/cursor"
	"docket/filter"
	"docket/model"
	"docket/request"
	"docket/shape"
)

// usual is how many documents a page has, if nothing is said.
const usual = 32

// view is an open cursor, and the tree that it goes over. Its root is pinned as long as it is open.
type view struct {
	number int64
	*cursor.Cursor
	top api.Ref
}

// slot is that of the cursor at a place.
func (k *call) slot(place int) int {
	return len(k.clients) + k.number*api.MaxCursors + place
}

// place is where the cursor of that number lies, or -1.
func (k *call) place(number int64) int {
	return slices.IndexFunc(k.cursors[:], func(v *view) bool { return v != nil && v.number == number })
}

// open: P24.4.
func (k *call) open(r api.Request) (string, int64) {
	place := slices.Index(k.cursors[:], nil)
	if place < 0 {
		return bad(api.ErrFull), noPoint
	}
	at := k.keeper.Pin(k.by, k.slot(place))
	coll, there := at.Coll(r.In)
	if !there {
		k.keeper.Unpin(k.by, k.slot(place))
		return bad(api.ErrColl), at.stamp
	}
	k.opened++
	k.cursors[place] = &view{number: k.opened, Cursor: cursorOf(r), top: coll.Top}
	return model.Opened(k.opened, at.stamp), at.stamp
}

func cursorOf(r api.Request) *cursor.Cursor {
	batch := int(min(r.Batch, api.MaxBatch))
	if batch == 0 {
		batch = usual
	}
	q, _ := filter.Parse(r.Filter)
	f, _ := shape.ParseFields(r.Fields)
	c, _ := cursor.New(q, f, batch)
	return c
}

// next: P24.4.
func (k *call) next(r api.Request) (string, int64) {
	place := k.place(r.Cursor)
	if place < 0 {
		return bad(api.ErrNone), noPoint
	}
	v := k.cursors[place]
	docs, done, _ := v.Next(k.space(), v.top)
	return model.Page(docs, done), noPoint
}

// close: P24.4.
func (k *call) close(r api.Request) (string, int64) {
	place := k.place(r.Cursor)
	if place < 0 {
		return bad(api.ErrNone), noPoint
	}
	k.keeper.Unpin(k.by, k.slot(place))
	k.cursors[place] = nil
	return request.Good(nil), noPoint
}
