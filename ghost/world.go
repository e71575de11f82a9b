package ghost

import (
	"slices"

	"plexus/api"
)

// stand answers how one stands behind a selected parent and others, and the sizes of anticones that its blue world has beyond
// those of the selected parent's.
func (c *Colours) stand(selected api.Hash, others []api.Hash) (node, map[api.Hash]int) {
	n := node{colour: api.Colour{Selected: selected, Merge: c.merge(selected, others)}}
	sizes := map[api.Hash]int{selected: 0}
	isBlue := c.judge(selected, sizes)
	for _, id := range n.colour.Merge {
		is := isBlue(id)
		n.colour.Blues = append(n.colour.Blues, is)
		if is {
			n.blues = append(n.blues, id)
		}
	}
	n.colour.Score = c.nodes[selected].colour.Score + 1 + uint64(len(n.blues))
	return n, sizes
}

// merge answers the merge set, in order. What stands in the selected parent's past has its own past there, too, so none of
// that is gone over.
func (c *Colours) merge(selected api.Hash, others []api.Hash) []api.Hash {
	var l []api.Hash
	seen := map[api.Hash]struct{}{selected: {}}
	put := func(ids []api.Hash) {
		for _, id := range ids {
			if _, is := seen[id]; is {
				continue
			}
			seen[id] = struct{}{}
			if !c.index.Before(id, selected) {
				l = append(l, id)
			}
		}
	}
	put(others)
	for i := 0; i < len(l); i++ {
		parents, _ := c.index.Graph().Parents(l[i])
		put(parents)
	}
	slices.SortFunc(l, c.compare)
	return l
}

// newcomer is one that came into a blue world, and those of it that stood in its anticone then.
type newcomer struct {
	id     api.Hash
	beside []api.Hash
}

// judge answers a function that is asked of one candidate after the other, in order: it answers whether that is blue, and, if
// so, lets it into the blue world, whose sizes it keeps up.
func (c *Colours) judge(selected api.Hash, sizes map[api.Hash]int) func(api.Hash) bool {
	var came []newcomer
	size := func(id api.Hash) int {
		if n, is := sizes[id]; is {
			return n
		}
		return c.size(selected, id)
	}
	isFull := func(id api.Hash) bool { return size(id) >= c.k }
	return func(id api.Hash) bool {
		beside := c.beside(id, selected, came)
		if len(beside) > c.k || slices.ContainsFunc(beside, isFull) {
			return false
		}
		for _, o := range beside {
			sizes[o] = size(o) + 1
		}
		sizes[id] = len(beside)
		came = append(came, newcomer{id, beside})
		return true
	}
}

// size answers how many of a blue world stand in the anticone of one of it, as that was told last along the chain.
func (c *Colours) size(world, id api.Hash) int {
	for o := range c.index.Up(world) {
		if n, is := c.sizes[within{o, id}]; is {
			return n
		}
	}
	return 0
}

// beside answers those of a blue world that stand in the anticone of a candidate; where they are more than K, it may be that
// not all of them are answered. A candidate stands ahead of none of that world: of the selected parent's past it is none, and
// of the newcomers none has a greater blue score. So those in its anticone are those that do not stand ahead of it.
func (c *Colours) beside(id, selected api.Hash, came []newcomer) []api.Hash {
	isAhead := func(o api.Hash) bool { return c.index.Before(o, id) }
	var l []api.Hash
	for _, o := range slices.Backward(came) {
		if isAhead(o.id) { // so is what the world had when o came, but for what stood in o's anticone
			return append(l, without(o.beside, isAhead)...)
		}
		if l = append(l, o.id); len(l) > c.k {
			return l
		}
	}
	for o := range c.index.Up(selected) {
		if isAhead(o) || len(l) > c.k {
			break
		}
		l = append(l, o)
		l = append(l, without(c.nodes[o].blues, isAhead)...)
	}
	return l
}

// without answers those of which something is not so.
func without(l []api.Hash, isSo func(api.Hash) bool) []api.Hash {
	return slices.DeleteFunc(slices.Clone(l), isSo)
}
