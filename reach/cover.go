package reach

import (
	"cmp"
	"slices"
)

// cover puts one that came into the covers of all that it covers: of its past those of which nothing tells yet that they
// stand in it. What stands in the past of its selected parent is told of, and so is all ahead of that, so none of it is
// gone over.
func (x *Index) cover(n int) {
	queue := []int{n}
	for i := 0; i < len(queue); i++ {
		parents, _ := x.graph.Parents(x.ids[queue[i]])
		for _, p := range parents {
			if m := x.numbers[p]; !x.isBefore(m, n) {
				x.covers[m] = slices.Insert(x.covers[m], x.seat(m, n), n)
				queue = append(queue, m)
			}
		}
	}
}

// isBefore answers whether a stands in b's past, by their numbers.
func (x *Index) isBefore(a, b int) bool {
	return a != b && (x.tree.Under(b, a) || x.isCovered(a, b))
}

// isCovered answers whether one of a's cover stands on b's chain. Of a cover none stands on another one's chain, so their
// intervals lie one behind the other: no other one than the first that does not end ahead of b's can have it within.
func (x *Index) isCovered(a, b int) bool {
	cover, i := x.covers[a], x.seat(a, b)
	return i < len(cover) && x.tree.Under(b, cover[i])
}

// seat answers the place in a's cover of the first one whose interval does not end ahead of b's. Intervals that are dealt
// anew keep their order, so a cover stays sorted.
func (x *Index) seat(a, b int) int {
	i, _ := slices.BinarySearchFunc(x.covers[a], x.end(b), func(c int, end uint64) int {
		return cmp.Compare(x.end(c), end)
	})
	return i
}

// end is the upper number of one's interval, which no other one's has.
func (x *Index) end(n int) uint64 {
	_, upper, _ := x.tree.Interval(n)
	return upper
}
