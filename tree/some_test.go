package tree_test

import (
	"math"
	"math/rand"
	"slices"
	"sort"
	"testing"

	"plexus/api"
	"plexus/tree"
)

// fine asks that none of the calls was refused.
func fine(t *testing.T, l ...api.Errno) {
	t.Helper()
	for i, e := range l {
		if e != api.OK {
			t.Fatalf("%d: %v", i, e)
		}
	}
}

// model is a tree, by definition: whose parent is who. The root has itself.
type model struct {
	parents []int
}

// stands answers whether a stands under b.
func (m *model) stands(a, b int) bool {
	for a != b && a != 0 {
		a = m.parents[a]
	}
	return a == b
}

// rows tell of each node which ones it stands under.
func (m *model) rows() [][]bool {
	rows := [][]bool{{true}}
	for n := 1; n < len(m.parents); n++ {
		row := make([]bool, len(m.parents))
		copy(row, rows[m.parents[n]])
		row[n] = true
		rows = append(rows, row)
	}
	rows[0] = append(rows[0], make([]bool, len(m.parents)-1)...)
	return rows
}

// children are who has n for its parent.
func (m *model) children(n int) []int {
	var l []int
	for child := 1; child < len(m.parents); child++ {
		if m.parents[child] == n {
			l = append(l, child)
		}
	}
	return l
}

// interval is from a lower to an upper number.
type interval struct{ lower, upper uint64 }

func (i interval) width() uint64 {
	return i.upper - i.lower + 1
}

// within answers whether each number of i is one of o.
func (i interval) within(o interval) bool {
	return o.lower <= i.lower && i.upper <= o.upper
}

// both is a tree, and what it should be.
type both struct {
	t *tree.Tree
	m *model
}

func begun() *both {
	return of(tree.New())
}

// narrow has a root of the numbers up to upper alone.
func narrow(upper uint64) *both {
	return of(tree.Narrow(upper))
}

func of(t *tree.Tree) *both {
	return &both{t, &model{parents: []int{0}}}
}

func (b *both) copy() *both {
	return &both{b.t.Copy(), &model{parents: slices.Clone(b.m.parents)}}
}

// intervals are those of all nodes.
func (b *both) intervals(t *testing.T) []interval {
	t.Helper()
	var l []interval
	for n := range b.m.parents {
		lower, upper, e := b.t.Interval(n)
		fine(t, e)
		l = append(l, interval{lower, upper})
	}
	return l
}

// add adds a child, and asks that intervals were dealt anew just if its parent had no number left that it may have; that,
// if they were not, all others' stayed; and that all are such as the chapter says.
func (b *both) add(t *testing.T, parent int) int {
	t.Helper()
	early, dealt := b.intervals(t), b.t.Dealt()
	left := early[parent].upper - early[parent].lower
	for n, p := range b.m.parents {
		if n > 0 && p == parent {
			left -= early[n].width()
		}
	}
	n, e := b.t.Add(parent)
	if fine(t, e); n != len(b.m.parents) {
		t.Fatalf("it has the number %d, want %d", n, len(b.m.parents))
	}
	b.m.parents = append(b.m.parents, parent)
	late := b.intervals(t)
	if left == 0 {
		dealt++
	} else if !slices.Equal(late[:n], early) {
		t.Fatalf("%d came under %d, which had room: others' intervals are others", n, parent)
	}
	if b.t.Dealt() != dealt || dealt > n {
		t.Fatalf("%d came under %d: dealt %d times, want %d", n, parent, b.t.Dealt(), dealt)
	}
	laid(t, b, late)
	return n
}

// laid asks that intervals are such as the chapter says.
func laid(t *testing.T, b *both, l []interval) {
	t.Helper()
	for n, i := range l {
		p := l[b.m.parents[n]]
		if i.lower < 1 || i.lower > i.upper || i.upper > 1<<62 {
			t.Fatalf("%d has %d to %d", n, i.lower, i.upper)
		}
		if n > 0 && (!i.within(p) || i.upper == p.upper) {
			t.Fatalf("%d has %d to %d, its parent %d to %d", n, i.lower, i.upper, p.lower, p.upper)
		}
	}
	apart(t, b, l)
}

// apart asks that no two children of one node have a number in common.
func apart(t *testing.T, b *both, l []interval) {
	t.Helper()
	order := make([]int, len(l)-1)
	for i := range order {
		order[i] = i + 1
	}
	sort.Slice(order, func(i, j int) bool { return l[order[i]].lower < l[order[j]].lower })
	last := make([]uint64, len(l))
	for _, n := range order {
		p := b.m.parents[n]
		if l[n].lower <= last[p] {
			t.Fatalf("%d has %d, as another child of %d", n, l[n].lower, p)
		}
		last[p] = l[n].upper
	}
}

// stands asks that all answers about b's tree are what they should be.
func stands(t *testing.T, b *both) {
	t.Helper()
	l := b.intervals(t)
	laid(t, b, l)
	if b.t.Len() != len(l) || b.t.Dealt() > len(l)-1 {
		t.Fatalf("%d nodes, dealt %d times; want %d nodes", b.t.Len(), b.t.Dealt(), len(l))
	}
	rows := b.m.rows()
	depths, sizes := make([]int, len(l)), make([]int, len(l))
	for x := range l {
		for y := range l {
			if rows[x][y] {
				depths[x]++
				sizes[y]++
			}
			if got := b.t.Under(x, y); got != rows[x][y] {
				t.Fatalf("Under(%d, %d): %t", x, y, got)
			}
			if l[x].within(l[y]) != rows[x][y] {
				t.Fatalf("%d: %v, %d: %v", x, l[x], y, l[y])
			}
		}
	}
	for n := range l {
		number(t, "Depth", b.t.Depth, n, depths[n]-1)
		number(t, "Size", b.t.Size, n, sizes[n])
	}
	beside(t, b)
}

// beside asks that parents and children are what they should be.
func beside(t *testing.T, b *both) {
	t.Helper()
	children := make([][]int, len(b.m.parents))
	for n, p := range b.m.parents {
		if n > 0 {
			number(t, "Parent", b.t.Parent, n, p)
			children[p] = append(children[p], n)
		}
	}
	for n := range children {
		got, e := b.t.Children(n)
		if fine(t, e); !slices.Equal(got, children[n]) {
			t.Fatalf("Children(%d): %v, want %v", n, got, children[n])
		}
	}
	if p, e := b.t.Parent(0); p != 0 || e != api.ErrNone {
		t.Fatalf("Parent(0): %d, %v", p, e)
	}
}

// number asks that a call answers a number.
func number(t *testing.T, what string, call func(int) (int, api.Errno), n, want int) {
	t.Helper()
	if got, e := call(n); got != want || e != api.OK {
		t.Fatalf("%s(%d): %d, %v; want %d", what, n, got, e, want)
	}
}

// grown is a tree whose nodes from 1 on have these parents.
func grown(t *testing.T, parents ...int) *both {
	t.Helper()
	b := begun()
	for _, p := range parents {
		b.add(t, p)
	}
	return b
}

// chain adds n nodes, each under the one ahead of it, the first one under a node, and answers the last one.
func (b *both) chain(t *testing.T, under, n int) int {
	t.Helper()
	for range n {
		under = b.add(t, under)
	}
	return under
}

// wide adds n nodes under one, and answers the last one.
func (b *both) wide(t *testing.T, under, n int) int {
	t.Helper()
	last := under
	for range n {
		last = b.add(t, under)
	}
	return last
}

// habit is a way of choosing under which one the next of n nodes comes.
type habit func(chance *rand.Rand, n int) int

// habits are some: any one, late ones, the last one, the root, a few first ones, the last one or any, one of two chains.
func habits() []habit {
	return []habit{
		func(chance *rand.Rand, n int) int { return chance.Intn(n) },
		func(chance *rand.Rand, n int) int { return n - 1 - chance.Intn(min(n, 6)) },
		func(_ *rand.Rand, n int) int { return n - 1 },
		func(*rand.Rand, int) int { return 0 },
		func(chance *rand.Rand, n int) int { return chance.Intn(min(n, 4)) },
		func(chance *rand.Rand, n int) int {
			if chance.Intn(3) == 0 {
				return chance.Intn(n)
			}
			return n - 1
		},
		func(_ *rand.Rand, n int) int { return max(0, n-2) },
	}
}

// grow adds some nodes, by one habit a while, then by another one.
func (b *both) grow(t *testing.T, chance *rand.Rand, n int) {
	t.Helper()
	all := habits()
	for n > 0 {
		choose := all[chance.Intn(len(all))]
		for range min(n, 1+chance.Intn(80)) {
			b.add(t, choose(chance, len(b.m.parents)))
			n--
		}
	}
}

// strangers are numbers that are no node's, where there are n.
func strangers(n int) []int {
	return []int{-1, -2, n, n + 1, n + 1000, -n, -n - 1, 1 << 31, -1 << 31, 1 << 62, math.MaxInt, math.MaxInt - 1, math.MinInt, math.MinInt + 1}
}
