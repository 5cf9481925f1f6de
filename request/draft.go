package request

import (
	"math"
	"slices"

	"docket/api"
	"docket/dotpath"
	"docket/filter"
	"docket/ident"
	"docket/jsonval"
	"docket/pipe"
	"docket/shape"
	"docket/update"
)

// draft is a Request into which members are laid, one by one, and the object that gives them. What is no text has the Text "", which is no name, no id and no mode: so its kind is asked only where another error is told of it.
type draft struct {
	given api.Value
	api.Request
}

// blank is a Request of which no member is there.
func blank(op int) api.Request {
	empty := api.Value{Kind: api.Object}
	return api.Request{Op: op, Fields: empty, Filter: empty, Sort: empty}
}

func (d *draft) in(v api.Value) error {
	d.In = v.Text
	return unless(ident.Name(v.Text), api.ErrCollection)
}

func (d *draft) id(v api.Value) error {
	d.Id = v.Text
	return unless(ident.Id(v.Text), api.ErrId)
}

func (d *draft) value(v api.Value) error {
	d.Value = v
	if e := update.Document(v); e != api.OK {
		return fault(e)
	}
	return unless(jsonval.Depth(v) <= api.MaxFit, api.ErrDepth)
}

func (d *draft) version(v api.Value) error { return layInt(&d.Version, v, 1, api.MaxStamp) }

// ops asks of the filters too: no operation has them without ops.
func (d *draft) ops(v api.Value) error {
	d.Ops = v
	filters, _ := jsonval.Has(d.given, "filters")
	_, e, _ := update.Parse(v, filters)
	return failed(e)
}

func (d *draft) filters(v api.Value) error {
	d.Filters = v
	return nil
}

func (d *draft) upsert(v api.Value) error { return layFlag(&d.Upsert, v) }

func (d *draft) new(v api.Value) error { return layFlag(&d.New, v) }

func (d *draft) fields(v api.Value) error {
	d.Fields = v
	_, e := shape.ParseFields(v)
	return failed(e)
}

func (d *draft) filter(v api.Value) error {
	d.Filter = v
	_, e := filter.Parse(v)
	return failed(e)
}

func (d *draft) sort(v api.Value) error {
	d.Sort = v
	_, e := shape.ParseSort(v)
	return failed(e)
}

func (d *draft) skip(v api.Value) error { return layInt(&d.Skip, v, 0, math.MaxInt64) }

func (d *draft) limit(v api.Value) error { return layInt(&d.Limit, v, 0, math.MaxInt64) }

func (d *draft) path(v api.Value) error {
	d.Path = v.Text
	if v.Kind != api.Text {
		return fault(api.ErrBad)
	}
	_, e, _ := dotpath.Parse(v.Text)
	return failed(e)
}

func (d *draft) pipe(v api.Value) error {
	d.Pipe = v
	_, e, _ := pipe.Parse(v)
	return failed(e)
}

func (d *draft) after(v api.Value) error { return layInt(&d.After, v, 0, math.MaxInt64) }

func (d *draft) steps(v api.Value) error {
	if v.Kind != api.List || len(v.Items) < 1 || len(v.Items) > api.MaxSteps {
		return fault(api.ErrBad)
	}
	for i, item := range v.Items {
		step, err := readStep(item)
		if err != nil {
			return located{err, i}
		}
		d.Steps = append(d.Steps, step)
	}
	return nil
}

func (d *draft) mode(v api.Value) error {
	d.Mode = slices.Index(modes(), v.Text)
	return unless(d.Mode >= 0, api.ErrBad)
}

func (d *draft) batch(v api.Value) error { return layInt(&d.Batch, v, 0, api.MaxBatch) }

func (d *draft) cursor(v api.Value) error { return layInt(&d.Cursor, v, 1, math.MaxInt64) }

func (d *draft) most(v api.Value) error { return layInt(&d.Most, v, 0, math.MaxInt64) }

func (d *draft) schema(v api.Value) error {
	d.Schema = v
	return unless(v.Kind == api.Object || v.Kind == api.Null, api.ErrBad)
}

func (d *draft) name(v api.Value) error {
	d.Name = v.Text
	return unless(ident.Name(v.Text), api.ErrBad)
}

func (d *draft) unique(v api.Value) error { return layFlag(&d.Unique, v) }

func layInt(field *int64, v api.Value, least, most int64) error {
	*field = v.Int
	return unless(v.Kind == api.Int && v.Int >= least && v.Int <= most, api.ErrBad)
}

func layFlag(field *bool, v api.Value) error {
	*field = v.Kind == api.True
	return unless(v.Kind == api.True || v.Kind == api.False, api.ErrBad)
}
