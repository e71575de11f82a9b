package reach

import (
	"iter"
	"slices"

	"plexus/api"
	"plexus/dag"
)

// number answers one's number in the tree.
func (x *Index) number(id api.Hash) (int, api.Errno) {
	if !x.isMade() {
		return 0, api.ErrNil
	}
	n, is := x.numbers[id]
	if !is {
		return 0, api.ErrNone
	}
	return n, api.OK
}

// pair answers two ones' numbers.
func (x *Index) pair(a, b api.Hash) (int, int, api.Errno) {
	n, e := x.number(a)
	if e != api.OK {
		return 0, 0, e
	}
	m, e := x.number(b)
	return n, m, e
}

// Chain answers whether a stands on the chain of b.
func (x *Index) Chain(a, b api.Hash) bool {
	n, m, e := x.pair(a, b)
	return e == api.OK && x.tree.Under(m, n)
}

// Before answers whether a stands in the past of b.
func (x *Index) Before(a, b api.Hash) bool {
	n, m, e := x.pair(a, b)
	return e == api.OK && x.isBefore(n, m)
}

// Selected answers one's selected parent, which the root has not.
func (x *Index) Selected(id api.Hash) (api.Hash, api.Errno) {
	n, e := x.number(id)
	if e != api.OK {
		return api.Hash{}, e
	}
	parent, e := x.tree.Parent(n)
	if e != api.OK {
		return api.Hash{}, e
	}
	return x.ids[parent], api.OK
}

// Cover answers one's cover, rising.
func (x *Index) Cover(id api.Hash) ([]api.Hash, api.Errno) {
	n, e := x.number(id)
	if e != api.OK {
		return nil, e
	}
	var l []api.Hash
	for _, c := range x.covers[n] {
		l = append(l, x.ids[c])
	}
	return dag.Sorted(l), api.OK
}

// Next answers the one on b's chain whose selected parent is a.
func (x *Index) Next(a, b api.Hash) (api.Hash, api.Errno) {
	n, m, e := x.pair(a, b)
	if e != api.OK {
		return api.Hash{}, e
	}
	children, _ := x.tree.Children(n)
	i := slices.IndexFunc(children, func(c int) bool { return x.tree.Under(m, c) })
	if i < 0 {
		return api.Hash{}, api.ErrNone
	}
	return x.ids[children[i]], api.OK
}

// Fork answers where the chains of a and b part: the last one that stands on both.
func (x *Index) Fork(a, b api.Hash) (api.Hash, api.Errno) {
	n, m, e := x.pair(a, b)
	if e != api.OK {
		return api.Hash{}, e
	}
	return x.ids[x.fork(n, m)], api.OK
}

// fork goes up from the one that has fewer above it, which can't be the farther one.
func (x *Index) fork(a, b int) int {
	high, _ := x.tree.Depth(a)
	low, _ := x.tree.Depth(b)
	if high > low {
		a, b = b, a
	}
	for c := range x.up(a) {
		if x.tree.Under(b, c) {
			return c
		}
	}
	return 0 // the root's, which stands on every chain
}

// Up goes over the chain of one, from it up to the root.
func (x *Index) Up(id api.Hash) iter.Seq[api.Hash] {
	n, e := x.number(id)
	return func(yield func(api.Hash) bool) {
		if e != api.OK {
			return
		}
		for m := range x.up(n) {
			if !yield(x.ids[m]) {
				return
			}
		}
	}
}

// up goes over the numbers of a chain.
func (x *Index) up(n int) iter.Seq[int] {
	return func(yield func(int) bool) {
		m, e := n, api.OK
		for e == api.OK && yield(m) {
			m, e = x.tree.Parent(m)
		}
	}
}
