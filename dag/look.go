package dag

import (
	"iter"
	"slices"

	"plexus/api"
)

// Parents answers one's parents, rising.
func (g *Graph) Parents(id api.Hash) ([]api.Hash, api.Errno) {
	return g.beside(id, func(n node) []int { return n.parents })
}

// Children answers one's children, rising.
func (g *Graph) Children(id api.Hash) ([]api.Hash, api.Errno) {
	return g.beside(id, func(n node) []int { return n.children })
}

// beside answers those of one's node that are asked for, rising.
func (g *Graph) beside(id api.Hash, asked func(node) []int) ([]api.Hash, api.Errno) {
	n, is := g.place(id)
	switch {
	case !g.isMade():
		return nil, api.ErrNil
	case !is:
		return nil, api.ErrNone
	}
	return g.rising(slices.Values(asked(g.nodes[n]))), api.OK
}

// Tips answers those without children, rising.
func (g *Graph) Tips() []api.Hash {
	return g.rising(g.where(func(n int) bool { return len(g.nodes[n].children) == 0 }))
}

// Before answers whether a stands in the past of b.
func (g *Graph) Before(a, b api.Hash) bool {
	m, isA := g.place(a)
	n, isB := g.place(b)
	return isA && isB && g.nodes[n].past.has(m)
}

// Past answers what stands in the past of one of some, rising.
func (g *Graph) Past(ids ...api.Hash) []api.Hash {
	past := newRow(g.Len())
	for _, id := range ids {
		if n, is := g.place(id); is {
			past.join(g.nodes[n].past)
		}
	}
	return g.rising(past.all())
}

// Future answers those whose past has one, rising.
func (g *Graph) Future(id api.Hash) []api.Hash {
	n, is := g.place(id)
	return g.rising(g.where(func(m int) bool { return is && g.nodes[m].past.has(n) }))
}

// Anticone answers those that stand neither in one's past nor in its future, and are not it, rising.
func (g *Graph) Anticone(id api.Hash) []api.Hash {
	n, is := g.place(id)
	return g.rising(g.where(func(m int) bool {
		return is && m != n && !g.nodes[m].past.has(n) && !g.nodes[n].past.has(m)
	}))
}

// where goes over the places that are asked for.
func (g *Graph) where(asked func(int) bool) iter.Seq[int] {
	return func(yield func(int) bool) {
		for n := range g.Len() {
			if asked(n) && !yield(n) {
				return
			}
		}
	}
}

// rising answers the hashes at some places, rising.
func (g *Graph) rising(places iter.Seq[int]) []api.Hash {
	var l []api.Hash
	for n := range places {
		l = append(l, g.ids[n])
	}
	slices.SortFunc(l, Compare)
	return l
}
