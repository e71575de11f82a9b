package tree_test

import (
	"math/rand"
	"slices"
	"testing"

	"plexus/api"
	"plexus/tree"
)

func TestExample(t *testing.T) {
	b := begun()
	for i, parent := range []int{0, 1, 0} {
		if n := b.add(t, parent); n != i+1 {
			t.Errorf("Add(%d): %d", parent, n)
		}
	}
	if !b.t.Under(2, 1) || b.t.Under(2, 3) {
		t.Errorf("%t, %t", b.t.Under(2, 1), b.t.Under(2, 3))
	}
	stands(t, b)
}

// A root is alone: it has no parent and no children, and stands under itself.
func TestNew(t *testing.T) {
	b := begun()
	stands(t, b)
	if b.t.Len() != 1 || b.t.Dealt() != 0 || !b.t.Under(0, 0) {
		t.Errorf("%d nodes, dealt %d times", b.t.Len(), b.t.Dealt())
	}
	number(t, "Depth", b.t.Depth, 0, 0)
	number(t, "Size", b.t.Size, 0, 1)
	if l, e := b.t.Children(0); len(l) > 0 || e != api.OK {
		t.Errorf("Children: %v, %v", l, e)
	}
	if p, e := b.t.Parent(0); p != 0 || e != api.ErrNone {
		t.Errorf("Parent: %d, %v", p, e)
	}
	other := tree.New()
	b.add(t, 0)
	if other.Len() != 1 {
		t.Error("another tree has a child, too")
	}
}

// Each number is how many there were, whichever parent one comes under.
func TestAdd(t *testing.T) {
	b := begun()
	for i, parent := range []int{0, 0, 1, 3, 2, 0, 6, 3, 3, 1, 10} {
		if n := b.add(t, parent); n != i+1 {
			t.Fatalf("%d, want %d", n, i+1)
		}
		stands(t, b)
	}
}

// What stands around each node of a small tree, told by hand.
func TestLooks(t *testing.T) {
	b := grown(t, 0, 0, 1, 3, 2, 0, 1)
	for n, c := range []struct {
		depth, size int
		children    []int
	}{
		{0, 8, []int{1, 2, 6}}, {1, 4, []int{3, 7}}, {1, 2, []int{5}}, {2, 2, []int{4}}, {3, 1, nil}, {2, 1, nil}, {1, 1, nil}, {2, 1, nil},
	} {
		number(t, "Depth", b.t.Depth, n, c.depth)
		number(t, "Size", b.t.Size, n, c.size)
		if l, e := b.t.Children(n); !slices.Equal(l, c.children) || e != api.OK {
			t.Errorf("Children(%d): %v, %v", n, l, e)
		}
		if !b.t.Under(n, n) || !b.t.Under(n, 0) || b.t.Under(0, n) != (n == 0) {
			t.Errorf("%d stands not under itself, or not under the root, or the root under it", n)
		}
	}
	for _, c := range [][2]int{{4, 3}, {4, 1}, {7, 1}, {5, 2}} {
		if !b.t.Under(c[0], c[1]) || b.t.Under(c[1], c[0]) {
			t.Errorf("Under(%d, %d)", c[0], c[1])
		}
	}
	for _, c := range [][2]int{{4, 2}, {4, 7}, {5, 1}, {6, 5}, {3, 7}} {
		if b.t.Under(c[0], c[1]) || b.t.Under(c[1], c[0]) {
			t.Errorf("Under(%d, %d)", c[0], c[1])
		}
	}
	stands(t, b)
}

// Each call is refused of what is no node, and nothing changes; what was refused once is taken once it is there.
func TestRefused(t *testing.T) {
	for _, size := range []int{0, 1, 2, 3, 100} {
		b := begun()
		b.chain(t, 0, size/2)
		b.wide(t, 0, size-size/2)
		early, dealt := b.intervals(t), b.t.Dealt()
		for _, n := range strangers(b.t.Len()) {
			none(t, b.t, n, api.ErrNone)
			for node := range b.m.parents {
				if b.t.Under(n, node) || b.t.Under(node, n) {
					t.Errorf("%d stands under %d", n, node)
				}
			}
		}
		if p, e := b.t.Parent(0); p != 0 || e != api.ErrNone {
			t.Errorf("Parent(0): %d, %v", p, e)
		}
		if stands(t, b); !slices.Equal(b.intervals(t), early) || b.t.Dealt() != dealt {
			t.Error("what was refused changed intervals")
		}
		next := b.t.Len()
		b.add(t, 0)
		b.add(t, next)
		stands(t, b)
	}
}

// none asks that each call is refused of a number, and that all else that it answers is nought.
func none(t *testing.T, o *tree.Tree, n int, want api.Errno) {
	t.Helper()
	for what, call := range map[string]func(int) (int, api.Errno){"Add": o.Add, "Parent": o.Parent, "Depth": o.Depth, "Size": o.Size} {
		if got, e := call(n); got != 0 || e != want {
			t.Errorf("%s(%d): %d, %v; want %v", what, n, got, e, want)
		}
	}
	if l, e := o.Children(n); len(l) > 0 || e != want {
		t.Errorf("Children(%d): %v, %v; want %v", n, l, e, want)
	}
	if lower, upper, e := o.Interval(n); lower != 0 || upper != 0 || e != want {
		t.Errorf("Interval(%d): %d, %d, %v; want %v", n, lower, upper, e, want)
	}
	if o.Under(n, n) {
		t.Errorf("%d stands under itself", n)
	}
}

// A nil tree, and a zero one, are refused, whatever else holds, and have nothing.
func TestNone(t *testing.T) {
	var nobody *tree.Tree
	zero := new(tree.Tree)
	for _, o := range []*tree.Tree{nobody, zero, nobody.Copy(), zero.Copy()} {
		for _, n := range append(strangers(1), 0, 1) {
			none(t, o, n, api.ErrNil)
			if o.Under(n, 0) || o.Under(0, n) {
				t.Errorf("%d, 0", n)
			}
		}
		if o.Len() != 0 || o.Dealt() != 0 || o.Copy() != nil {
			t.Errorf("%d nodes, dealt %d times", o.Len(), o.Dealt())
		}
	}
}

// What was answered is the caller's: the tree goes on as it was, whatever is done to it.
func TestHandedOut(t *testing.T) {
	b := grown(t, 0, 0, 1, 0, 0, 1)
	for _, n := range []int{0, 1} {
		first, _ := b.t.Children(n)
		second, _ := b.t.Children(n)
		clear(first[:cap(first)])
		_ = append(first, 77)
		if stands(t, b); !slices.Equal(second, b.m.children(n)) {
			t.Errorf("two answers share memory: %v", second)
		}
		b.add(t, n)
		b.add(t, n)
		if stands(t, b); !slices.Equal(second, b.m.children(n)[:len(second)]) || first[0] != 0 {
			t.Errorf("an answer goes on with the tree: %v, %v", first, second)
		}
	}
}

// The same calls come to the same answers.
func TestTwice(t *testing.T) {
	for seed := range int64(10) {
		first, second := begun(), begun()
		first.grow(t, rand.New(rand.NewSource(seed)), 300)
		second.grow(t, rand.New(rand.NewSource(seed)), 300)
		if !slices.Equal(first.intervals(t), second.intervals(t)) || first.t.Dealt() != second.t.Dealt() {
			t.Errorf("%d: intervals are others", seed)
		}
	}
}

// What only looks changes nothing.
func TestLooksChangeNothing(t *testing.T) {
	b := begun()
	b.grow(t, rand.New(rand.NewSource(1)), 200)
	early, dealt := b.intervals(t), b.t.Dealt()
	stands(t, b)
	b.t.Copy()
	if stands(t, b); !slices.Equal(b.intervals(t), early) || b.t.Dealt() != dealt {
		t.Error("intervals are others")
	}
}
