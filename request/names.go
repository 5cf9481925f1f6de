package request

import (
	"strings"

	"docket/api"
)

// block is errors whose numbers rise by one from the first on, and their names.
type block struct {
	first api.Errno
	names string
}

func blocks() []block {
	return []block{
		{api.OK, "ok long arg short tail full"},
		{api.ErrNone, "none there"},
		{api.ErrToken, "token text escape utf int range name depth value"},
		{api.ErrPath, "path cross index clash"},
		{api.ErrKey, "key"},
		{api.ErrFilter, "filter operator operand many nested"},
		{api.ErrUpdate, "update verb give steps filters where kind overflow big doc"},
		{api.ErrSort, "sort fields both"},
		{api.ErrPipe, "pipe stage spec expr eval divide much"},
		{api.ErrMade, "made"},
		{api.ErrClients, "clients"},
		{api.ErrTrace, "trace"},
		{api.ErrLost, "lost rise"},
		{api.ErrRequest, "request op member missing collection id bad stale stamps"},
		{api.ErrIndexed, "indexed unique"},
		{api.ErrHorizon, "horizon"},
		{api.ErrBatch, "batch"},
		{api.ErrRule, "rule rules schema"},
		{api.ErrNotEmpty, "notempty capacity coll"},
		{api.ErrNodes, "nodes"},
		{api.ErrHistory, "history search"},
		{api.ErrDump, "dump order sums"},
		{api.ErrMagic, "magic kindof flags sum session closed"},
		{api.ErrConsole, "console"},
	}
}

// Name: P16.6.
func Name(e api.Errno) string {
	for _, b := range blocks() {
		names := strings.Fields(b.names)
		if i := int(e - b.first); i >= 0 && i < len(names) {
			return names[i]
		}
	}
	return "unknown"
}
