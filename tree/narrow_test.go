package tree

// Narrow answers a tree whose root has the numbers up to upper alone, so that few nodes bring its interval to be dealt anew:
// of 2^62 numbers it takes tens of thousands, in few shapes.
func Narrow(upper uint64) *Tree {
	t := New()
	t.nodes[root].upper = upper
	return t
}
