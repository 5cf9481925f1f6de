package txn_test

import (
	"slices"
	"strings"
	"testing"

	"docket/api"
	"docket/txn"
)

func wantKeys(t *testing.T, steps []api.Request, want ...string) {
	t.Helper()
	if got := txn.Keys(steps); !slices.Equal(got, want) {
		t.Errorf("%+v: %q, not %q", steps, got, want)
	}
}

// to is a step that names a document, with whatever operation.
func to(in, id string) api.Request { return api.Request{Op: api.OpDelete, In: in, Id: id} }

// P20.4: rising, each once.
func TestKeys(t *testing.T) {
	wantKeys(t, nil)
	wantKeys(t, []api.Request{})
	wantKeys(t, []api.Request{to("c", "a")}, "c/a")
	wantKeys(t, []api.Request{to("c", "b"), to("c", "a")}, "c/a", "c/b")
	wantKeys(t, []api.Request{to("c", "a"), to("c", "b"), to("c", "a")}, "c/a", "c/b")
	wantKeys(t, []api.Request{to("d", "a"), to("c", "z"), to("c", "a"), to("d", "a"), to("c", "z")}, "c/a", "c/z", "d/a")
	wantKeys(t, []api.Request{to("c", "a"), to("c", "aa"), to("c-", "a"), to("c0", "a"), to("c", "Z"), to("c", "~")}, "c-/a", "c/Z", "c/a", "c/aa", "c/~", "c0/a")
	wantKeys(t, []api.Request{to("c", "x/y"), to("", ""), to("c", ""), to("c", "\xff"), to("c", "x/y")}, "/", "c/", "c/x/y", "c/\xff")
	wantKeys(t, asks(`{'op':'delete','in':'c','id':'a'}`, `{'op':'insert','in':'c','id':'a','value':{}}`, `{'op':'replace','in':'b','id':'z','value':{}}`, `{'op':'update','in':'c','id':'A','ops':{'$set':{'n':1}}}`), "b/z", "c/A", "c/a")
}

// P20.4: the operation has no part, and keys are told apart as texts.
func TestKeysOfAnyStep(t *testing.T) {
	wantKeys(t, []api.Request{{Op: api.OpGet, In: "c", Id: "g"}, {Op: 99, In: "c", Id: "f"}, {}}, "/", "c/f", "c/g")
	wantKeys(t, []api.Request{to("a/b", "c"), to("a", "b/c")}, "a/b/c") // of no names that there are
}

// play is what All answers, as one text, and what it asked for.
func play(b *book, steps []api.Request, mode int, stamp int64) string {
	results, changes, e, at := txn.All(b, steps, mode, stamp)
	return tellAll(results, changes, e, at)
}

func tellAll(results []api.Value, changes []api.Change, e api.Errno, at int) string {
	return strings.Join([]string{tellValues(results), tellChanges(changes), numbers(int(e), at)}, " | ")
}

func wantAll(t *testing.T, b *book, steps []api.Request, mode int, want string) {
	t.Helper()
	if got := play(b, steps, mode, 9); got != want {
		t.Errorf("mode %d:\n%s, not\n%s\nasked %q", mode, got, want, b.asked)
	}
}

func wantAsked(t *testing.T, b *book, want ...string) {
	t.Helper()
	if !slices.Equal(b.asked, want) {
		t.Errorf("asked %q, not %q", b.asked, want)
	}
}

func wantState(t *testing.T, b *book, want string) {
	t.Helper()
	if b.state() != want {
		t.Errorf("%s, not %s", b.state(), want)
	}
}

const (
	insertA  = `{'op':'insert','in':'c','id':'a','value':{'x':1}}`
	insertB  = `{'op':'insert','in':'c','id':'b','value':{}}`
	insertE  = `{'op':'insert','in':'e','id':'a','value':{}}` // no such collection
	deleteA  = `{'op':'delete','in':'c','id':'a'}`
	replaceA = `{'op':'replace','in':'c','id':'a','value':{'n':1}}`
	incA     = `{'op':'update','in':'c','id':'a','ops':{'$inc':{'n':1}}}`
	setA     = `{'op':'update','in':'c','id':'a','ops':{'$set':{'n':0}}}`
	upsertD  = `{'op':'update','in':'d','id':'a','ops':{'$inc':{'n':5}},'upsert':true}`
	modifyA  = `{'op':'modify','in':'c','id':'a','ops':{'$inc':{'n':2}},'new':true,'fields':{'n':1}}`
)

// Example 3.
func TestDeleteAndInsert(t *testing.T) {
	steps := asks(deleteA, insertA)
	for _, mode := range []int{modeAll, modeStop, modeEach} {
		b := newBook("c/a")
		wantAll(t, b, steps, mode, `{"ok":true,"version":9} {"ok":true,"id":"a","version":9} | 9c/a3 9c/a1 | 0 -1`)
		wantAsked(t, b, "Item c a", `Commit c [a@1{"n":0}] []`, "Item c a", `Commit c [] [a@9{"x":1}]`)
		wantState(t, b, `c/a=a@9{"x":1}`)
	}
	wantKeys(t, steps, "c/a")
}

// Example 4.
func TestInsertTwice(t *testing.T) {
	steps := asks(insertA, insertA)
	wantAll(t, newBook(), steps, modeAll, ` |  | 8 1`)
	for _, mode := range []int{modeStop, modeEach} {
		b := newBook()
		wantAll(t, b, steps, mode, `{"ok":true,"id":"a","version":9} {"ok":false,"error":"there"} | 9c/a1 | 0 -1`)
		wantAsked(t, b, "Item c a", `Commit c [] [a@9{"x":1}]`, "Item c a")
		wantState(t, b, `c/a=a@9{"x":1}`)
	}
}

// P20.5: each step sees what those ahead of it made; the results are told of each as it was then.
func TestOneBehindTheOther(t *testing.T) {
	steps := asks(incA, setA, setA, replaceA, upsertD, deleteA, upsertD, insertB)
	for _, mode := range []int{modeAll, modeStop, modeEach} {
		b := newBook("c/a")
		wantAll(t, b, steps, mode, `{"ok":true,"version":9,"changed":true,"fresh":false} {"ok":true,"version":9,"changed":true,"fresh":false} {"ok":true,"version":9,"changed":false,"fresh":false} `+
			`{"ok":true,"version":9,"changed":true} {"ok":true,"version":9,"changed":true,"fresh":true} {"ok":true,"version":9} {"ok":true,"version":9,"changed":true,"fresh":false} {"ok":true,"id":"b","version":9} | `+
			`9c/a2 9c/a2 9c/a2 9d/a1 9c/a3 9d/a2 9c/b1 | 0 -1`)
		wantAsked(t, b, "Item c a", `Commit c [a@1{"n":0}] [a@9{"n":1}]`,
			"Item c a", `Commit c [a@9{"n":1}] [a@9{"n":0}]`,
			"Item c a", `Commit c [a@9{"n":0}] [a@9{"n":0}]`, // not changed, and asked as well
			"Item c a", `Commit c [a@9{"n":0}] [a@9{"n":1}]`,
			"Item d a", `Commit d [] [a@9{"n":5}]`,
			"Item c a", `Commit c [a@9{"n":1}] []`,
			"Item d a", `Commit d [a@9{"n":5}] [a@9{"n":10}]`,
			"Item c b", `Commit c [] [b@9{}]`)
		wantState(t, b, `c/b=b@9{} d/a=a@9{"n":10}`)
	}
}

// P20.5: a modify is a step too, where one is handed in.
func TestModifyAsAStep(t *testing.T) {
	for _, mode := range []int{modeAll, modeStop, modeEach} {
		wantAll(t, newBook("c/a"), asks(modifyA, modifyA), mode, `{"ok":true,"version":9,"changed":true,"fresh":false,"value":{"n":2}} {"ok":true,"version":9,"changed":true,"fresh":false,"value":{"n":4}} | 9c/a2 9c/a2 | 0 -1`)
	}
}

// P20.5: no changes of what is not changed.
func TestNothingChanges(t *testing.T) {
	for _, mode := range []int{modeAll, modeStop, modeEach} {
		b := newBook("c/a")
		wantAll(t, b, asks(setA), mode, `{"ok":true,"version":1,"changed":false,"fresh":false} |  | 0 -1`)
		wantAsked(t, b, "Item c a", `Commit c [a@1{"n":0}] [a@1{"n":0}]`)
		wantState(t, b, `c/a=a@1{"n":0}`)
	}
}

// P20.5: the first error of the mode all, with its number; s is not asked further.
func TestModeAll(t *testing.T) {
	for _, c := range []struct {
		steps []api.Request
		e     int
		at    int
	}{
		{asks(replaceA, insertB, insertB), isNone, 0},
		{asks(insertB, deleteA, insertB), isNone, 1},
		{asks(insertB, upsertD, insertB, deleteA), isThere, 2},
		{asks(insertB, upsertD, upsertD, insertE), int(api.ErrColl), 3},
	} {
		b := newBook()
		wantAll(t, b, c.steps, modeAll, ` |  | `+numbers(c.e, c.at))
		if len(b.asked) != 2*c.at+1 || b.asked[2*c.at] != "Item "+c.steps[c.at].In+" "+c.steps[c.at].Id {
			t.Errorf("asked %q", b.asked)
		}
	}
}

// P20.5: up to the first one that has an error, that one too.
func TestModeStop(t *testing.T) {
	b := newBook()
	wantAll(t, b, asks(insertB, upsertD, deleteA, insertA, insertA), modeStop, `{"ok":true,"id":"b","version":9} {"ok":true,"version":9,"changed":true,"fresh":true} {"ok":false,"error":"none"} | 9c/b1 9d/a1 | 0 -1`)
	wantAsked(t, b, "Item c b", `Commit c [] [b@9{}]`, "Item d a", `Commit d [] [a@9{"n":5}]`, "Item c a")
	wantState(t, b, `c/b=b@9{} d/a=a@9{"n":5}`)
	b = newBook()
	wantAll(t, b, asks(deleteA, insertA), modeStop, `{"ok":false,"error":"none"} |  | 0 -1`)
	wantAsked(t, b, "Item c a")
}

// P20.5: all steps, whatever becomes of those ahead.
func TestModeEach(t *testing.T) {
	b := newBook()
	wantAll(t, b, asks(deleteA, insertA, insertA, incA, insertE, deleteA, replaceA, insertB), modeEach,
		`{"ok":false,"error":"none"} {"ok":true,"id":"a","version":9} {"ok":false,"error":"there"} {"ok":true,"version":9,"changed":true,"fresh":false} {"ok":false,"error":"coll"} {"ok":true,"version":9} {"ok":false,"error":"none"} {"ok":true,"id":"b","version":9} | `+
			`9c/a1 9c/a2 9c/a3 9c/b1 | 0 -1`)
	wantAsked(t, b, "Item c a", "Item c a", `Commit c [] [a@9{"x":1}]`, "Item c a", "Item c a", `Commit c [a@9{"x":1}] [a@9{"x":1,"n":1}]`, "Item e a", "Item c a", `Commit c [a@9{"x":1,"n":1}] []`, "Item c a", "Item c b", `Commit c [] [b@9{}]`)
	wantState(t, b, `c/b=b@9{}`)
}

// P20.5: Item's error is the step's; nothing else is looked at.
func TestItemErrors(t *testing.T) {
	for e, name := range map[api.Errno]string{api.ErrColl: "coll", api.ErrLost: "lost", isThere: "there", 12345: "unknown", -1: "unknown"} {
		for mode, want := range map[int]string{
			modeAll:  ` |  | ` + numbers(int(e), 1),
			modeStop: `{"ok":true,"id":"b","version":9} {"ok":false,"error":"` + name + `"} | 9c/b1 | 0 -1`,
			modeEach: `{"ok":true,"id":"b","version":9} {"ok":false,"error":"` + name + `"} {"ok":true,"version":9,"changed":true,"fresh":true} | 9c/b1 9d/a1 | 0 -1`,
		} {
			b := newBook()
			b.wrong = map[int]api.Errno{2: e}
			wantAll(t, b, asks(insertB, deleteA, upsertD), mode, want)
			if mode != modeEach {
				wantAsked(t, b, "Item c b", `Commit c [] [b@9{}]`, "Item c a")
			}
		}
	}
	b := newBook()
	b.wrong = map[int]api.Errno{0: api.ErrColl} // ahead of One's
	wantAll(t, b, []api.Request{{Op: api.OpGet, In: "c", Id: "a"}}, modeAll, ` |  | 222 0`)
}

// P20.5: Commit's error is the step's likewise: such a step has no change.
func TestCommitErrors(t *testing.T) {
	for e, name := range map[api.Errno]string{api.ErrUnique: "unique", api.ErrSchema: "schema", api.ErrFull: "full", 12345: "unknown", -1: "unknown"} {
		for mode, want := range map[int]string{
			modeAll:  ` |  | ` + numbers(int(e), 1),
			modeStop: `{"ok":true,"id":"b","version":9} {"ok":false,"error":"` + name + `"} | 9c/b1 | 0 -1`,
			modeEach: `{"ok":true,"id":"b","version":9} {"ok":false,"error":"` + name + `"} {"ok":true,"version":9,"changed":true,"fresh":true} | 9c/b1 9d/a1 | 0 -1`,
		} {
			b := newBook("c/a")
			b.wrong = map[int]api.Errno{3: e}
			wantAll(t, b, asks(insertB, incA, upsertD), mode, want)
			if mode != modeEach {
				wantAsked(t, b, "Item c b", `Commit c [] [b@9{}]`, "Item c a", `Commit c [a@1{"n":0}] [a@9{"n":1}]`)
			}
		}
	}
	b := newBook("c/a")
	b.wrong = map[int]api.Errno{1: api.ErrSchema} // of a step that changes nothing
	wantAll(t, b, asks(setA), modeAll, ` |  | 212 0`)
}

// P20.5: an operation that is no change is ErrArg, of its step.
func TestStepsThatAreNone(t *testing.T) {
	for _, op := range []int{0, api.OpGet, api.OpTxn, 99, -1} {
		steps := []api.Request{ask(insertB), {Op: op, In: "c", Id: "a", Value: val(`{}`)}, ask(upsertD)}
		wantAll(t, newBook(), steps, modeAll, ` |  | 2 1`)
		b := newBook("c/a")
		wantAll(t, b, steps, modeStop, `{"ok":true,"id":"b","version":9} {"ok":false,"error":"arg"} | 9c/b1 | 0 -1`)
		wantAsked(t, b, "Item c b", `Commit c [] [b@9{}]`, "Item c a")
		wantAll(t, newBook(), steps, modeEach, `{"ok":true,"id":"b","version":9} {"ok":false,"error":"arg"} {"ok":true,"version":9,"changed":true,"fresh":true} | 9c/b1 9d/a1 | 0 -1`)
	}
}

// P20.5: another mode; s is not asked.
func TestModesThatAreNone(t *testing.T) {
	for _, mode := range []int{-1, 3, 4, 1 << 40, -1 << 63, 1<<63 - 1, 1 << 32} {
		for _, steps := range [][]api.Request{asks(insertA, insertA), {{Op: api.OpGet}}, nil} {
			b := newBook()
			wantAll(t, b, steps, mode, ` |  | 2 -1`)
			wantAsked(t, b)
		}
	}
}

// P20.5: no steps.
func TestNoSteps(t *testing.T) {
	for _, mode := range []int{modeAll, modeStop, modeEach} {
		b := newBook("c/a")
		wantAll(t, b, nil, mode, ` |  | 0 -1`)
		wantAll(t, b, []api.Request{}, mode, ` |  | 0 -1`)
		wantAsked(t, b)
	}
}

// P20.5: nothing is said of how many steps there may be: more than a request may have are done as well.
func TestManySteps(t *testing.T) {
	var steps []api.Request
	for range 300 {
		steps = append(steps, ask(upsertD))
	}
	b := newBook()
	results, changes, e, at := txn.All(b, steps, modeAll, 9)
	if len(results) != 300 || len(changes) != 300 || e != isOK || at != -1 {
		t.Error(len(results), len(changes), e, at)
	}
	wantState(t, b, `d/a=a@9{"n":1500}`)
	steps = append(steps, ask(insertE))
	wantAll(t, newBook(), steps, modeAll, ` |  | 222 300`)
}

// P20.5: the number of the step, the stamp as it is handed in.
func TestStampsOfAll(t *testing.T) {
	for _, s := range []int64{0, 1, maxStamp, -1} {
		b := newBook()
		n := numbers(int(s))
		if got := play(b, asks(insertA, deleteA), modeAll, s); got != `{"ok":true,"id":"a","version":`+n+`} {"ok":true,"version":`+n+`} | `+n+`c/a1 `+n+`c/a3 | 0 -1` {
			t.Error(got)
		}
	}
}
