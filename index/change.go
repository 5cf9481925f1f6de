package index

import (
	"slices"

	"docket/api"
	"docket/order"
)

// change is a Change under way: the Keys of was go, and then the items of now have their turns, one behind the other.
type change struct {
	from   *Index
	gone   []*entry       // those of from that have gone
	came   [][]*entry     // what came at each turn; nothing any more, if its Key had another turn since
	turns  map[string]int // of each Key whose entries in from have gone: its last turn, or noTurn
	claims map[string]int // if it is unique: by the bytes of each value that came, and is still there: its turn
}

// noTurn is what a Key of was has, as long as no item of now bears it.
const noTurn = -1

func (x *Index) begin(was []api.Item) *change {
	c := &change{from: x, turns: map[string]int{}, claims: map[string]int{}}
	for _, item := range was {
		c.takeOut(item.Key)
		c.turns[item.Key] = noTurn
	}
	return c
}

// lay gives an item its turn. If another Key has a value of it, and none may, that Key is told, and true.
func (c *change) lay(item api.Item) (string, bool) {
	c.takeOut(item.Key)
	own := entriesOf(item, c.from.path)
	c.turns[item.Key] = len(c.came)
	c.came = append(c.came, own)
	if c.from.spec.Unique {
		return c.claim(own)
	}
	return "", false
}

// takeOut leaves nothing of a Key, neither of what it had nor of what came at an earlier turn.
func (c *change) takeOut(key string) {
	turn, had := c.turns[key]
	if !had {
		c.gone = append(c.gone, c.from.having(key)...)
		return
	}
	if turn == noTurn {
		return
	}
	for _, e := range c.came[turn] {
		delete(c.claims, bytesOf(e.value))
	}
	c.came[turn] = nil
}

// claim is for the entries of the last turn, whose Key has no others left.
func (c *change) claim(own []*entry) (string, bool) {
	for _, e := range own {
		bytes := bytesOf(e.value)
		if turn, there := c.claims[bytes]; there {
			return c.came[turn][0].key, true
		}
		if key, there := c.stays(e.value); there {
			return key, true
		}
		c.claims[bytes] = len(c.came) - 1
	}
	return "", false
}

// stays is the Key that has the value since before the change: in a unique index there is one at most.
func (c *change) stays(v api.Value) (string, bool) {
	for _, r := range c.from.reaches(api.NeedEq, v) {
		for _, key := range c.from.within(r) {
			if _, had := c.turns[key]; !had {
				return key, true
			}
		}
	}
	return "", false
}

// result is the index without all that has gone, and with all that came.
func (c *change) result() *Index {
	x, came := c.from, slices.Concat(c.came...)
	return &Index{
		spec:    x.spec,
		path:    x.path,
		entries: edited(x.entries, c.gone, came, byValues),
		keyed:   edited(x.keyed, c.gone, came, byKeys),
	}
}

// bytesOf tells values apart: unlike ones have unlike bytes.
func bytesOf(v api.Value) string {
	bytes, _ := order.Bytes(v)
	return string(bytes)
}
