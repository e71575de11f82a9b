package ghost

import (
	"cmp"
	"slices"

	"plexus/api"
	"plexus/dag"
)

// refused answers why nothing can be told of some, all of which have to be there.
func (c *Colours) refused(ids ...api.Hash) api.Errno {
	if !c.isMade() {
		return api.ErrNil
	}
	for _, id := range ids {
		if !c.has(id) {
			return api.ErrNone
		}
	}
	return api.OK
}

func (c *Colours) has(id api.Hash) bool {
	_, is := c.nodes[id]
	return is
}

// compare answers -1, 0 or 1: a's place against b's, by rising blue scores, of equal ones by rising hashes.
func (c *Colours) compare(a, b api.Hash) int {
	return cmp.Or(cmp.Compare(c.nodes[a].colour.Score, c.nodes[b].colour.Score), dag.Compare(a, b))
}

// Get answers one's colour.
func (c *Colours) Get(id api.Hash) (api.Colour, api.Errno) {
	if e := c.refused(id); e != api.OK {
		return api.Colour{}, e
	}
	return c.nodes[id].told(), api.OK
}

// Select answers which one of some parents would be the selected one.
func (c *Colours) Select(parents ...api.Hash) (api.Hash, api.Errno) {
	if c.isMade() && len(parents) == 0 {
		return api.Hash{}, api.ErrParents
	}
	if e := c.refused(parents...); e != api.OK {
		return api.Hash{}, e
	}
	return slices.MaxFunc(parents, c.compare), api.OK
}

// View answers the colour of one that would stand behind some, of which one is the selected one, whatever the scores are.
func (c *Colours) View(selected api.Hash, others ...api.Hash) (api.Colour, api.Errno) {
	if e := cmp.Or(c.refused(selected), c.refused(others...)); e != api.OK {
		return api.Colour{}, e
	}
	n, _ := c.stand(selected, others)
	return n.colour, api.OK
}

// Best answers the better one of two: of those that are there the one with the greater blue score, of equal ones the greater
// hash; noughts, where neither is there.
func (c *Colours) Best(a, b api.Hash) api.Hash {
	there := slices.DeleteFunc([]api.Hash{a, b}, func(id api.Hash) bool { return c.refused(id) != api.OK })
	best, _ := c.Select(there...)
	return best
}

// Blue answers whether a stands in b's blue world: on its chain, or blue in a merge set of the chain. Those whose merge sets
// have it are its cover, at most one of which stands on a chain.
func (c *Colours) Blue(a, b api.Hash) bool {
	if !c.isMade() || a == b {
		return false
	}
	if c.index.Chain(a, b) {
		return true
	}
	cover, _ := c.index.Cover(a)
	for _, o := range cover {
		if c.index.Chain(o, b) {
			_, is := c.sizes[within{o, a}]
			return is
		}
	}
	return false
}

// World answers one's blue world, rising.
func (c *Colours) World(id api.Hash) ([]api.Hash, api.Errno) {
	if e := c.refused(id); e != api.OK {
		return nil, e
	}
	var l []api.Hash
	for o := range c.index.Up(id) {
		if o != id {
			l = append(l, o)
		}
		l = append(l, c.nodes[o].blues...)
	}
	return dag.Sorted(l), api.OK
}
