package update

import (
	"slices"
	"strings"

	"docket/api"
	"docket/dotpath"
)

// path is an update path by its parts. A part that means items of a list begins with $, as no segment does: so its text tells it apart.
type path []string

func readPath(text string) (path, bool) {
	parts := strings.SplitN(text, ".", api.MaxSegments+1)
	if len(parts) > api.MaxSegments || !isSegment(parts[0]) {
		return nil, false
	}
	for _, part := range parts[1:] {
		if !isSegment(part) && !isItems(part) {
			return nil, false
		}
	}
	return parts, true
}

func isSegment(part string) bool {
	_, e := dotpath.Print([]string{part})
	return e == api.OK
}

func isItems(part string) bool {
	name, opens := strings.CutPrefix(part, "$[")
	name, closes := strings.CutSuffix(name, "]")
	return opens && closes && len(name) <= api.MaxSegment && !strings.ContainsFunc(name, isNoLetterOrDigit)
}

func isNoLetterOrDigit(c rune) bool {
	return (c < 'a' || c > 'z') && (c < 'A' || c > 'Z') && (c < '0' || c > '9')
}

// meansItems is asked of a part of a path that was read.
func meansItems(part string) bool { return part[0] == '$' }

// nameOf is the name in a part that means items: empty in $[], which means all of them.
func nameOf(part string) string { return part[len("$[") : len(part)-len("]")] }

// names tells the names of items that stand in the path's parts.
func (p path) names() []string {
	var found []string
	for _, part := range p {
		if meansItems(part) && nameOf(part) != "" {
			found = append(found, nameOf(part))
		}
	}
	return found
}

func (p path) hasItems() bool { return slices.ContainsFunc(p, meansItems) }

func (p path) text() string { return strings.Join(p, ".") }

func (p path) clashes(q path) bool {
	shared := min(len(p), len(q))
	return slices.EqualFunc(p[:shared], q[:shared], areLike)
}

// areLike takes a part that means items for any other: which items are meant is known only of a document.
func areLike(a, b string) bool { return a == b || meansItems(a) || meansItems(b) }
