package tree

// The numbers of all intervals.
const (
	lowest  = 1
	highest = 1 << 62
)

// ease is how many times an interval that is dealt has to be as wide as the square of how many nodes it is dealt to. It is
// the square, so that the more nodes there are the more room each of them has, and the longer it lasts: great dealings are
// seldom.
const ease = 16

// lay gives a child that is to come numbers of what its parent has left, if it has any left. The more children there are,
// the less the next one gets, so that room for more is left for long.
func (t *Tree) lay(child *node) bool {
	parent := t.nodes[child.parent]
	count := len(parent.children)
	free := parent.lower
	if count > 0 {
		free = t.nodes[parent.children[count-1]].upper + 1
	}
	room := parent.upper - free
	if room == 0 {
		return false
	}
	child.lower, child.upper = free, free+room/uint64(count+2)
	return true
}

func (v node) width() uint64 {
	return v.upper - v.lower + 1
}

// roomy answers the lowest node, from n upwards, whose interval can be dealt to all under it. The root's has to do.
func (t *Tree) roomy(n int) int {
	size := len(t.below(n, nobody))
	for n != root && !isRoomy(t.nodes[n].width(), uint64(size)) {
		child := n
		n = t.nodes[n].parent
		size += len(t.below(n, child))
	}
	return n
}

// isRoomy divides, since the square of a size may be above all numbers.
func isRoomy(width, size uint64) bool {
	return width/size >= ease*size
}

// deal deals a node's interval anew to all under it. What they get is by their sizes, and what is over stays with who has it.
func (t *Tree) deal(top int) {
	queue := t.below(top, nobody)
	sizes := sizesOf(queue)
	share := t.nodes[top].width() / shares(sizes[0])
	free := make([]uint64, len(queue)) // of each one, its lowest number that no child has yet
	for i, s := range queue {
		v := &t.nodes[s.node]
		if i > 0 {
			v.lower = free[s.up]
			free[s.up] += share * shares(sizes[i])
			v.upper = free[s.up] - 1
		}
		free[i] = v.lower
	}
	t.dealt++
}

// sizesOf answers how many in a queue stand under each one of it, itself among them.
func sizesOf(queue []seat) []uint64 {
	sizes := make([]uint64, len(queue))
	for i := range len(queue) {
		last := len(queue) - 1 - i
		sizes[last]++
		if last > 0 {
			sizes[queue[last].up] += sizes[last]
		}
	}
	return sizes
}

// shares answers how many shares a node of a size gets: for it and for each one under it a share, and for each child one
// more, which stays with the parent, so that the wider one is, the more room is left for others.
func shares(size uint64) uint64 {
	return 2*size - 1
}
