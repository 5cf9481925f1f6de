package docstore_test

import (
	"fmt"
	"slices"
	"strconv"
	"strings"
	"testing"

	"docket/api"
	"docket/docstore"
	"docket/jsonval"
	"docket/prim"
)

// The promises of the whole that a store keeps: of any script that ends all calls.

// played is a run of clients on a store with a collection c, that ends all calls, and that store.
func played(t *testing.T, d dice, before []string, calls [][]string) (api.Played, *docstore.Store) {
	t.Helper()
	c := api.StoreConfig{Clients: len(calls), Stripes: pick(d, 1, 3, maxStripes), Nodes: 3000, Keep: 200}
	s := mustMake(t, prim.Scripted(), c)
	mustCall(t, s, 0, append([]string{"{'op':'create','in':'c'}"}, before...)...)
	p := mustPlay(t, s, calls, append(d.script(4000), enough()...))
	if slices.Contains(p.Run.Ends, wasStopped) || slices.Contains(p.Run.Ends, hasPanicked) {
		t.Fatal(p.Run.Ends, p.Run.Waits)
	}
	return p, s
}

func times(n int, raws ...string) []string { return slices.Repeat(quotedAll(raws...), n) }

// docOf is a document's text at the end, or "".
func docOf(p api.Played, key string) string {
	for _, x := range p.End.Docs {
		if x.Key == key {
			text, _ := jsonval.Print(x.Value)
			return text
		}
	}
	return ""
}

// P2, P3: what several add is all there, and each scan tells one sum of what txns move.
func TestNothingIsLost(t *testing.T) {
	for seed := range int64(40) {
		d := newDice(1100000 + seed)
		p, _ := played(t, d, []string{insert("a", 0), insert("b", 0)}, [][]string{
			times(9, inc("a", 1)), times(9, "{'op':'txn','steps':["+inc("b", -2)+","+inc("a", 2)+"]}"), times(9, "{'op':'txn','steps':["+inc("a", 3)+","+inc("b", -3)+"]}", inc("b", -1), inc("a", 1)),
			times(9, "{'op':'aggregate','in':'c','pipe':[{'$group':{'_id':null,'sum':{'$sum':'$n'}}}]}", "{'op':'scan','in':'c','fields':{'n':1}}"),
		})
		if a, b := docOf(p, "c/a"), docOf(p, "c/b"); a != `{"n":63}` || b != `{"n":-54}` {
			t.Fatalf("%d: %s, %s", seed, a, b)
		}
		moves, _ := played(t, d, []string{insert("a", 10), insert("b", 20)}, [][]string{
			times(9, "{'op':'txn','steps':["+inc("b", -2)+","+inc("a", 2)+"]}"), times(9, "{'op':'txn','steps':["+inc("a", 3)+","+inc("b", -3)+"]}"),
			times(9, "{'op':'aggregate','in':'c','pipe':[{'$group':{'_id':null,'sum':{'$sum':'$n'}}}]}"),
		})
		for _, x := range moves.Calls {
			if x.Client == 2 && !strings.HasSuffix(x.Reply, `"sum":30}]}`) {
				t.Fatalf("%d: %s", seed, x.Reply)
			}
		}
	}
}

// P4: of several that insert one document one is told that it did; of several that replace one version one.
func TestJustOne(t *testing.T) {
	for seed := range int64(60) {
		d := newDice(1200000 + seed)
		calls := make([][]string, 5)
		for n := range calls {
			calls[n] = quotedAll(insert("x", n), fmt.Sprintf("{'op':'replace','in':'c','id':'a','value':{'n':%d},'version':2}", n))
		}
		p, _ := played(t, d, []string{insert("a", 9)}, calls)
		told := map[string]int{}
		for _, x := range p.Calls {
			told[x.Raw[:10]+strconv.FormatBool(strings.HasPrefix(x.Reply, `{"ok":true`))]++
			if strings.HasPrefix(x.Reply, `{"ok":true`) {
				if key := map[bool]string{true: "c/x", false: "c/a"}[strings.Contains(x.Raw, "insert")]; docOf(p, key) != fmt.Sprintf(`{"n":%d}`, x.Client) {
					t.Fatalf("%d: %s of client %d, and it is %s", seed, x.Raw, x.Client, docOf(p, key))
				}
			} else if x.Reply != no("there") && x.Reply != no("stale") {
				t.Fatal(x.Reply)
			}
		}
		if fmt.Sprint(told) != `map[{"op":"insfalse:4 {"op":"instrue:1 {"op":"repfalse:4 {"op":"reptrue:1]` {
			t.Fatalf("%d: %v", seed, told)
		}
	}
}

// P5: no two have one value of a unique index, and no collection has more documents than it may, be it that each document has a latch of its own.
func TestUniqueAndMost(t *testing.T) {
	for seed := range int64(60) {
		d := newDice(1300000 + seed)
		calls := make([][]string, 4)
		for n := range calls {
			for i := range 6 {
				calls[n] = append(calls[n], quoted(insert(fmt.Sprint("k", n, "-", i), d.Intn(5))), quoted(fmt.Sprintf("{'op':'insert','in':'d','id':'%d-%d','value':{}}", n, i)))
			}
		}
		p, _ := played(t, d, []string{"{'op':'index','in':'c','name':'x','path':'n','unique':true}", "{'op':'create','in':'d','most':3}"}, calls)
		met := map[string]bool{}
		few := 0
		for _, x := range p.End.Docs {
			text, _ := jsonval.Print(x.Value)
			if strings.HasPrefix(x.Key, "d/") {
				few++
			} else if met[text] {
				t.Fatalf("%d: %s twice", seed, text)
			}
			met[text] = true
		}
		if few != 3 || len(met) < 4 {
			t.Fatalf("%d: %d in d: %v", seed, few, met)
		}
	}
}

// P7: whoever follows the changes from stamp to stamp is told each once, in order, and knows then which documents there are.
func TestFollowed(t *testing.T) {
	for seed := range int64(40) {
		d := newDice(1400000 + seed)
		var calls [][]string
		for range 3 {
			var l []string
			for range 12 {
				l = append(l, quoted(pick(d, inc(d.id(), 1), "{'op':'delete','in':'c','id':'"+d.id()+"'}", insert(d.id(), 1))))
			}
			calls = append(calls, l)
		}
		p, s := played(t, d, nil, calls)
		have := map[string]bool{}
		last := int64(0)
		for after := int64(0); after < s.End().Stamp; {
			reply, _ := s.Call(nil, 0, quoted(fmt.Sprintf("{'op':'changes','after':%d,'limit':2}", after)))
			v, _, _ := jsonval.Parse(reply)
			l, _ := jsonval.Has(v, "changes")
			next, _ := jsonval.Has(v, "next")
			for _, x := range l.Items {
				stamp, id, kind := x.Items[0].Int, x.Items[2].Text, x.Items[3].Text
				if stamp <= last || (kind == "insert") == have[id] {
					t.Fatalf("%d: %s behind %d", seed, reply, last)
				}
				last, have[id] = stamp, kind != "delete"
			}
			if next.Int == after {
				break
			}
			after = next.Int
		}
		n := 0
		for _, there := range have {
			if there {
				n++
			}
		}
		if n != len(p.End.Docs) {
			t.Fatalf("%d: %v, and there are %d", seed, have, len(p.End.Docs))
		}
		for _, x := range p.End.Docs {
			if !have[strings.TrimPrefix(x.Key, "c/")] {
				t.Fatalf("%d: %s was never told", seed, x.Key)
			}
		}
	}
}

// P8, P12: clients that work at collections of their own, with txns of each mode, have in the end the documents that they would have alone.
func TestOwnCollections(t *testing.T) {
	for seed := range int64(40) {
		d := newDice(1500000 + seed)
		var calls [][]string
		for n := range 3 {
			own := "o" + strconv.Itoa(n)
			l := quotedAll("{'op':'create','in':'" + own + "','most':5}")
			for range 10 {
				raw := pick(d, d.step(), d.txn())
				for _, in := range []string{"'c'", "'c-1'", "'d'"} {
					raw = strings.ReplaceAll(raw, "'in':"+in, "'in':'"+own+"'")
				}
				l = append(l, quoted(dropVersions(raw)))
			}
			calls = append(calls, l)
		}
		p, _ := played(t, d, nil, calls)
		for n := range calls {
			alone := make([][]string, 3)
			alone[n] = calls[n]
			q, _ := played(t, d, nil, alone)
			var got, want []string
			for _, x := range p.End.Docs {
				if strings.HasPrefix(x.Key, "o"+strconv.Itoa(n)) {
					got = append(got, x.Key, docOf(p, x.Key))
				}
			}
			for _, x := range q.End.Docs {
				want = append(want, x.Key, docOf(q, x.Key))
			}
			if !slices.Equal(got, want) {
				t.Fatalf("%d: client %d has %q, and alone %q", seed, n, got, want)
			}
		}
	}
}

// dropVersions takes the version out of a request: stamps are counted over all clients.
func dropVersions(raw string) string {
	for v := range 20 {
		raw = strings.ReplaceAll(raw, ",'version':"+strconv.Itoa(20-v), "")
	}
	return raw
}

// P14: an index that was made while others wrote tells what a look at all documents tells.
func TestIndexMeanwhile(t *testing.T) {
	for seed := range int64(40) {
		d := newDice(1600000 + seed)
		var calls [][]string
		for range 3 {
			var l []string
			for range 10 {
				l = append(l, quoted(pick(d, inc(d.id(), 1), "{'op':'delete','in':'c','id':'"+d.id()+"'}", insert(d.id(), d.Intn(4)))))
			}
			calls = append(calls, l)
		}
		calls = append(calls, quotedAll("{'op':'stat'}", "{'op':'index','in':'c','name':'x','path':'n'}"))
		p, s := played(t, d, nil, calls)
		for n := range 5 {
			filter := fmt.Sprintf("'filter':{'n':{'$gte':%d}}", n)
			by, _ := s.Call(nil, 0, quoted("{'op':'scan','in':'c',"+filter+"}"))
			explained, _ := s.Call(nil, 0, quoted("{'op':'explain','in':'c',"+filter+"}"))
			mustCall(t, s, 0, "{'op':'unindex','in':'c','name':'x'}")
			all, _ := s.Call(nil, 0, quoted("{'op':'scan','in':'c',"+filter+"}"))
			mustCall(t, s, 0, "{'op':'index','in':'c','name':'x','path':'n'}")
			_, by, _ = strings.Cut(by, `"docs"`)
			_, all, _ = strings.Cut(all, `"docs"`)
			if by != all || !strings.Contains(explained, `"index":"x"`) {
				t.Fatalf("%d: by the index %s, not %s: %s", seed, by, all, explained)
			}
		}
		if len(p.End.Colls[0].Specs) != 1 {
			t.Fatal(p.End.Colls)
		}
	}
}
