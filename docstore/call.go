package docstore

import (
	"docket/api"
	"docket/request"
	"docket/sched"
	"docket/trie"
)

// client is what is kept of one. Nobody else uses it, and it makes one call at a time: so it needs no lock.
type client struct {
	made    int64 // ids for it
	opened  int64 // cursors by it
	cursors [api.MaxCursors]*view
}

// call is one under way: of the store, by the client with that number, whose steps are taken by one of a run.
type call struct {
	*Store
	*client
	by     *sched.Client
	number int
}

// answers is what is done for a request, by its operation: it tells the reply, and the stamp of the point.
func answers() map[int]func(k *call, r api.Request) (string, int64) {
	return map[int]func(k *call, r api.Request) (string, int64){
		api.OpGet:       (*call).read,
		api.OpScan:      (*call).read,
		api.OpCount:     (*call).read,
		api.OpDistinct:  (*call).read,
		api.OpAggregate: (*call).read,
		api.OpExplain:   (*call).read,
		api.OpChanges:   (*call).read,
		api.OpStat:      (*call).read,

		api.OpOpen:  (*call).open,
		api.OpNext:  (*call).next,
		api.OpClose: (*call).close,

		api.OpInsert:  (*call).change,
		api.OpReplace: (*call).change,
		api.OpUpdate:  (*call).change,
		api.OpModify:  (*call).change,
		api.OpDelete:  (*call).change,
		api.OpTxn:     (*call).change,
		api.OpCreate:  (*call).change,
		api.OpDrop:    (*call).change,
		api.OpIndex:   (*call).change,
		api.OpUnindex: (*call).change,
	}
}

func (k *call) answer(raw string) (string, int64) {
	r, e, at := request.Parse(raw)
	if e != api.OK {
		return request.Bad(e, at), noPoint
	}
	return answers()[r.Op](k, r)
}

// bad is the reply of an error that is none of a step.
func bad(e api.Errno) string { return request.Bad(e, -1) }

// space is the store's nodes, as the call sees them.
func (k *call) space() trie.Space { return trie.Of(k.nodes, k.by) }
