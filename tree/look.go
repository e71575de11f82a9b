package tree

import (
	"slices"

	"plexus/api"
)

// Under answers whether a stands under b.
func (t *Tree) Under(a, b int) bool {
	return t.has(a) && t.has(b) && t.nodes[a].lower >= t.nodes[b].lower && t.nodes[a].upper <= t.nodes[b].upper
}

// Parent answers a node's parent, which the root has not.
func (t *Tree) Parent(n int) (int, api.Errno) {
	if e := t.refused(n); e != api.OK {
		return 0, e
	}
	if n == root {
		return 0, api.ErrNone
	}
	return t.nodes[n].parent, api.OK
}

// Children answers a node's children, rising.
func (t *Tree) Children(n int) ([]int, api.Errno) {
	if e := t.refused(n); e != api.OK {
		return nil, e
	}
	return slices.Clone(t.nodes[n].children), api.OK
}

// Depth answers how many stand above a node.
func (t *Tree) Depth(n int) (int, api.Errno) {
	if e := t.refused(n); e != api.OK {
		return 0, e
	}
	return t.nodes[n].depth, api.OK
}

// Size answers how many stand under a node, itself among them.
func (t *Tree) Size(n int) (int, api.Errno) {
	if e := t.refused(n); e != api.OK {
		return 0, e
	}
	return len(t.below(n, nobody)), api.OK
}

// Interval answers a node's lower and its upper number, as they are now. Of two nodes of which neither stands under the other
// one, the same one always has the lower numbers, though they are dealt anew.
func (t *Tree) Interval(n int) (uint64, uint64, api.Errno) {
	if e := t.refused(n); e != api.OK {
		return 0, 0, e
	}
	return t.nodes[n].lower, t.nodes[n].upper, api.OK
}

// Dealt answers how often intervals were dealt anew.
func (t *Tree) Dealt() int {
	if !t.isMade() {
		return 0
	}
	return t.dealt
}

// seat is a node in a queue, and where its parent stands in it.
type seat struct{ node, up int }

// nobody is left out where it is the root, which is no one's child.
const nobody = root

// below answers a node and those under it, each behind its parent, but leaves out one of its children and those under that.
func (t *Tree) below(n, out int) []seat {
	queue := []seat{{node: n}}
	for i := 0; i < len(queue); i++ {
		for _, child := range t.nodes[queue[i].node].children {
			if child != out {
				queue = append(queue, seat{child, i})
			}
		}
	}
	return queue
}
