package clocks

import "sort"

// A use is a read or a write of a cell: the number of its event, and which one of its client's events it is.
type use struct {
	event int
	count int32
}

// A user is a client with its uses of a cell, which rise by both of their numbers. The writes are among all.
type user struct {
	client int
	all    []use
	writes []use
}

// A cell lists the clients that used it alone: a trace may have a million cells of one client each.
type cell struct {
	users []user
}

func (x *cell) use(client int, u use, writes bool) {
	by := x.userOf(client)
	by.all = append(by.all, u)
	if writes {
		by.writes = append(by.writes, u)
	}
}

func (x *cell) userOf(client int) *user {
	for i := range x.users {
		if x.users[i].client == client {
			return &x.users[i]
		}
	}
	x.users = append(x.users, user{client: client})
	return &x.users[len(x.users)-1]
}

// firstApart is the event of the first use so far with which one of that clock races. Uses of its own client are
// among those that its clock knows, so that they need not be told from others'.
func (x *cell) firstApart(now clock, writes bool) (first int, there bool) {
	for _, by := range x.users {
		uses := by.writes
		if writes {
			uses = by.all
		}
		i, unknown := firstUnknown(uses, now[by.client])
		if unknown && (!there || i < first) {
			first, there = i, true
		}
	}
	return first, there
}

// firstUnknown is the event of the first use that is not among its client's first known events: what is ahead is a
// beginning of the client's events, so that it can be found by halves.
func firstUnknown(uses []use, known int32) (int, bool) {
	at := sort.Search(len(uses), func(i int) bool { return uses[i].count > known })
	if at == len(uses) {
		return 0, false
	}
	return uses[at].event, true
}
