package catalog_test

import (
	"fmt"
	"testing"

	"docket/api"
	"docket/catalog"
)

func wantCount(t *testing.T, c *catalog.Catalog, want int) {
	t.Helper()
	if k, there := c.Coll("c"); !there || k.Count != want {
		t.Errorf("%d, %v, not %d", k.Count, there, want)
	}
}

// P22.6: documents come, become others, go.
func TestCommit(t *testing.T) {
	c := created(t, only(t, 5, "null"), "d", 5, "null")
	c = indexed(t, indexed(t, c, "c", spec("n!"), nil), "c", api.Spec{Name: "u", Path: "u"}, nil)
	l := items("a {'t':1,'u':1}", "b {'t':2,'u':1}")
	come := committed(t, c, "c", nil, l)
	wantColls(t, come, "c 2/5 null {0 0} [{n t true} {u u false}]", "d 0/5 null {0 0} []")
	wantChosen(t, come, "c", gte, "0", `["a" "b"] n true`)
	one := func(c *catalog.Catalog) string {
		return chosen(c.Choose("c", []api.Need{{Path: "u", Op: eq, Value: val("1")}}))
	}
	if one(come) != `["a" "b"] u true` {
		t.Error(one(come))
	}
	other := committed(t, come, "c", l[:1], items("a {'t':3}"))
	wantColls(t, other, "c 2/5 null {0 0} [{n t true} {u u false}]", "d 0/5 null {0 0} []")
	wantChosen(t, other, "c", gte, "0", `["a" "b"] n true`)
	wantChosen(t, other, "c", lte, "1", `[] n true`)
	if one(other) != `["b"] u true` {
		t.Error(one(other))
	}
	gone := committed(t, come, "c", l[1:], nil)
	wantColls(t, gone, "c 1/5 null {0 0} [{n t true} {u u false}]", "d 0/5 null {0 0} []")
	wantChosen(t, gone, "c", gte, "0", `["a"] n true`)
	mixed := committed(t, come, "c", l, items("b {'t':1}", "e {'t':2}", "f {}"))
	wantColls(t, mixed, "c 3/5 null {0 0} [{n t true} {u u false}]", "d 0/5 null {0 0} []")
	wantChosen(t, mixed, "c", eq, "1", `["b"] n true`)
	wantChosen(t, mixed, "c", eq, "2", `["e"] n true`)
	nothing := committed(t, come, "c", nil, []api.Item{})
	if told(nothing) != told(come) {
		t.Error(told(nothing))
	}
	wantColls(t, committed(t, come, "d", nil, l), "c 2/5 null {0 0} [{n t true} {u u false}]", "d 2/5 null {0 0} []")
}

// P22.6: whether the documents of was are there is not asked, nor whether those of now are.
func TestCommitOfWhatIsNotThere(t *testing.T) {
	c := indexed(t, only(t, 2, "null"), "c", spec("n!"), nil)
	fewer := committed(t, c, "c", items("a {'t':1}", "b {'t':2}", "a {'t':1}"), nil)
	wantCount(t, fewer, -3)
	full := committed(t, fewer, "c", nil, items("a {'t':1}", "b {'t':2}", "e {'t':3}", "f {'t':4}", "g {'t':5}"))
	wantCount(t, full, 2)
	wantChosen(t, full, "c", gte, "0", `["a" "b" "e" "f" "g"] n true`)
	d, e := full.Commit("c", nil, items("h {}"))
	wantRefused(t, "one more", d, e, isFull)
	same := committed(t, c, "c", nil, items("a {'t':1}", "a {'t':2}")) // counted as two, under one Key
	wantCount(t, same, 2)
	wantChosen(t, same, "c", gte, "0", `["a"] n true`)
	again := committed(t, committed(t, c, "c", nil, items("a {'t':1}")), "c", nil, items("a {'t':2}"))
	wantCount(t, again, 2)
	wantChosen(t, again, "c", gte, "0", `["a"] n true`)
}

// P22.6: as many documents as there may be, and not one more.
func TestCommitFull(t *testing.T) {
	for most := 1; most <= 4; most++ {
		c := only(t, int64(most), "null")
		l := crowd(most + 3)
		for n := range l {
			d, e := c.Commit("c", nil, l[:n])
			if n > most {
				wantRefused(t, fmt.Sprint(n, " of ", most), d, e, isFull)
				continue
			}
			d = taken(t, d, e)
			wantCount(t, d, n)
			for gone := 0; gone <= n; gone++ {
				for come := range l {
					x, e := d.Commit("c", l[:gone], l[:come])
					if want := n - gone + come; want <= most {
						wantCount(t, taken(t, x, e), want)
					} else {
						wantRefused(t, fmt.Sprint(n, " - ", gone, " + ", come, " of ", most), x, e, isFull)
					}
				}
			}
		}
	}
}

// P22.3, P22.6: as many documents as any collection may have.
func TestCommitMost(t *testing.T) {
	l := crowd(maxCapacity + 1)
	for _, most := range []int64{0, maxCapacity} {
		c := only(t, most, "null")
		d, e := c.Commit("c", nil, l)
		wantRefused(t, "too many at once", d, e, isFull)
		c = committed(t, committed(t, c, "c", nil, l[:maxCapacity-1]), "c", nil, l[maxCapacity-1:maxCapacity])
		wantCount(t, c, maxCapacity)
		d, e = c.Commit("c", nil, l[maxCapacity:])
		wantRefused(t, "one more", d, e, isFull)
		wantCount(t, committed(t, c, "c", l[:1], l[maxCapacity:]), maxCapacity)
	}
}

// P22.6: what comes keeps the schema; what goes, and what is there, is not asked.
func TestCommitSchema(t *testing.T) {
	c := only(t, 0, "{'required':['t'],'properties':{'t':{'minimum':1}}}")
	for _, x := range []struct {
		texts []string
		want  api.Errno
	}{
		{nil, isOK}, {[]string{"a {'t':1}"}, isOK}, {[]string{"a {'t':1}", "b {'t':'x'}", "e 5"}, isOK},
		{[]string{"a {}"}, isSchema}, {[]string{"a {'t':0}"}, isSchema}, {[]string{"a {'t':1}", "b {'t':1}", "e {'t':-1}"}, isSchema}, {[]string{"a {'u':1}", "b {'t':1}"}, isSchema},
	} {
		for _, was := range [][]api.Item{nil, items("z {}"), items("a {'t':0}", "y {}")} {
			d, e := c.Commit("c", was, items(x.texts...))
			if x.want == isOK {
				wantCount(t, taken(t, d, e), len(x.texts)-len(was))
			} else {
				wantRefused(t, fmt.Sprint(x.texts), d, e, x.want)
			}
		}
	}
	free := created(t, c, "d", 0, "null") // another collection's schema has no part
	committed(t, free, "d", nil, items("a {}", "b 5"))
	indexed(t, c, "c", spec("n"), items("a {}")) // nor has it in what an index is made of
}

// P22.6: the document's error of each index, wherever it stands; none of the others has changed then.
func TestCommitUnique(t *testing.T) {
	l := items("a {'t':1,'u':1}", "b {'t':2,'u':2}")
	for at := range 3 {
		c := committed(t, only(t, 0, "null"), "c", nil, l)
		for i := range 3 {
			s := api.Spec{Name: fmt.Sprint("n", i), Path: "u"}
			if i == at {
				s = api.Spec{Name: "t", Path: "t", Unique: true}
			}
			c = indexed(t, c, "c", s, l)
		}
		before := told(c)
		for _, now := range [][]api.Item{items("e {'t':1}"), items("e {'t':[7,2]}"), items("e {'t':3}", "f {'t':3}"), items("a {'t':2}")} {
			d, e := c.Commit("c", nil, now)
			wantRefused(t, itemsText(now), d, e, isUnique)
		}
		d, e := c.Commit("c", l[:1], items("a {'t':2}"))
		wantRefused(t, "a as b", d, e, isUnique)
		committed(t, c, "c", l, items("a {'t':2}", "b {'t':1}"))
		committed(t, c, "c", l[:1], items("e {'t':1}"))
		committed(t, c, "c", nil, items("e {'u':1}"))
		if told(c) != before {
			t.Errorf("%s has become %s", before, told(c))
		}
	}
}

// P22.6: of several errors the first, in the document's order.
func TestCommitErrorsInOrder(t *testing.T) {
	l := items("a {'t':1}", "b {'t':2}")
	c := indexed(t, committed(t, only(t, 2, "{'required':['t']}"), "c", nil, l), "c", spec("n!"), l)
	for _, x := range []struct {
		was, now []api.Item
		want     api.Errno
	}{
		{nil, items("x {'t':1}", "y {}"), isSchema},        // and too many, and a value that another has
		{l, items("x {}"), isSchema},                       // alone
		{l[:1], items("x {'t':2}", "y {'u':2}"), isSchema}, // all three
		{l[:1], items("x {'t':2}", "y {'t':2}"), isFull},   // and a value that another has
		{nil, items("x {'t':3}"), isFull},
		{l[:1], items("x {'t':2}"), isUnique},
		{l[:1], items("x {'t':1}"), isOK},
	} {
		d, e := c.Commit("c", x.was, x.now)
		if e != x.want || (d == nil) != (x.want != isOK) {
			t.Errorf("%s, %s: %v, %d, not %d", itemsText(x.was), itemsText(x.now), d, e, x.want)
		}
		for _, name := range []string{"d", "", "C"} {
			d, e = c.Commit(name, x.was, x.now)
			wantRefused(t, name, d, e, isColl)
		}
	}
}
