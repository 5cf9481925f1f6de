package dotpath

// tree holds paths of which none clashes with another, so that one more is held against all of them at once and the work grows with their segments, not with their pairs.
type tree struct {
	steps map[step]int // to which node a step leads
	nodes []node       // the first one is where all paths begin
}

type step struct {
	from    int
	segment string
}

type node struct {
	ends  bool // a path ends here
	leads bool // a path goes on from here
}

func newTree() *tree {
	return &tree{steps: map[step]int{}, nodes: make([]node, 1)}
}

// lay answers false at a path that clashes with one that was laid; the tree is of no use then.
func (t *tree) lay(path []string) bool {
	at := 0
	for _, segment := range path {
		if t.nodes[at].ends {
			return false
		}
		at = t.follow(at, segment)
	}
	if t.nodes[at].ends || t.nodes[at].leads {
		return false
	}
	t.nodes[at].ends = true
	return true
}

func (t *tree) follow(from int, segment string) int {
	to, there := t.steps[step{from, segment}]
	if !there {
		to = len(t.nodes)
		t.nodes = append(t.nodes, node{})
		t.steps[step{from, segment}] = to
		t.nodes[from].leads = true
	}
	return to
}
