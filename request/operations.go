package request

import "docket/api"

// operation is a row of the table of operations.
type operation struct {
	number int
	name   string
	has    []member
}

// member is one that an operation has: lay checks it, and lays it into the Request.
type member struct {
	name string
	must bool
	lay  func(*draft, api.Value) error
}

// optional is the member where an operation does not need it, as others do.
func optional(m member) member {
	m.must = false
	return m
}

func operations() []operation {
	in := member{"in", true, (*draft).in}
	id := member{"id", true, (*draft).id}
	value := member{"value", true, (*draft).value}
	version := member{"version", false, (*draft).version}
	ops := member{"ops", true, (*draft).ops}
	filters := member{"filters", false, (*draft).filters}
	upsert := member{"upsert", false, (*draft).upsert}
	isNew := member{"new", false, (*draft).new}
	fields := member{"fields", false, (*draft).fields}
	filter := member{"filter", false, (*draft).filter}
	sort := member{"sort", false, (*draft).sort}
	skip := member{"skip", false, (*draft).skip}
	limit := member{"limit", false, (*draft).limit}
	path := member{"path", true, (*draft).path}
	pipe := member{"pipe", true, (*draft).pipe}
	after := member{"after", true, (*draft).after}
	steps := member{"steps", true, (*draft).steps}
	mode := member{"mode", false, (*draft).mode}
	batch := member{"batch", false, (*draft).batch}
	cursor := member{"cursor", true, (*draft).cursor}
	most := member{"most", false, (*draft).most}
	schema := member{"schema", false, (*draft).schema}
	name := member{"name", true, (*draft).name}
	unique := member{"unique", false, (*draft).unique}
	return []operation{
		{api.OpGet, "get", []member{in, id, fields}},
		{api.OpInsert, "insert", []member{in, optional(id), value}},
		{api.OpReplace, "replace", []member{in, id, value, version}},
		{api.OpUpdate, "update", []member{in, id, ops, filters, version, upsert}},
		{api.OpModify, "modify", []member{in, id, ops, filters, version, upsert, isNew, fields}},
		{api.OpDelete, "delete", []member{in, id, version}},
		{api.OpScan, "scan", []member{in, filter, sort, skip, limit, fields}},
		{api.OpCount, "count", []member{in, filter}},
		{api.OpDistinct, "distinct", []member{in, path, filter}},
		{api.OpAggregate, "aggregate", []member{in, pipe}},
		{api.OpExplain, "explain", []member{in, filter}},
		{api.OpChanges, "changes", []member{after, limit, optional(in)}},
		{api.OpTxn, "txn", []member{steps, mode}},
		{api.OpOpen, "open", []member{in, filter, fields, batch}},
		{api.OpNext, "next", []member{cursor}},
		{api.OpClose, "close", []member{cursor}},
		{api.OpCreate, "create", []member{in, most, schema}},
		{api.OpDrop, "drop", []member{in}},
		{api.OpIndex, "index", []member{in, name, path, unique}},
		{api.OpUnindex, "unindex", []member{in, name}},
		{api.OpStat, "stat", nil},
	}
}
