package catalog

import "docket/api"

// find is the collection of a name, or nil.
func (c *Catalog) find(name string) *collection {
	if c == nil {
		return nil
	}
	return c.colls[name]
}

// edited is another catalog, in which a collection is what edit makes of a copy of it: lists that stand in the copy are still those of the old one.
func (c *Catalog) edited(name string, edit func(k *collection) api.Errno) (*Catalog, api.Errno) {
	if c == nil {
		return nil, api.OK
	}
	old := c.find(name)
	if old == nil {
		return nil, api.ErrColl
	}
	k := *old
	if e := edit(&k); e != api.OK {
		return nil, e
	}
	return c.with(&k), api.OK
}

// with is another catalog, in which a collection lies under its name.
func (c *Catalog) with(k *collection) *Catalog {
	colls := c.copied()
	colls[k.Name] = k
	return &Catalog{colls}
}

// without is another catalog, in which nothing lies under a name.
func (c *Catalog) without(name string) *Catalog {
	colls := c.copied()
	delete(colls, name)
	return &Catalog{colls}
}

func (c *Catalog) copied() map[string]*collection {
	colls := make(map[string]*collection, len(c.colls)+1)
	for name, k := range c.colls {
		colls[name] = k
	}
	return colls
}
