package tree_test

import (
	"math/rand"
	"slices"
	"testing"

	"plexus/api"
)

// Behind each step of many rows of calls, taken and refused, all answers are what the parents alone say.
func TestEachStep(t *testing.T) {
	for seed := range int64(60) {
		chance := rand.New(rand.NewSource(seed))
		b := begun()
		if seed%3 == 0 {
			b = narrow(uint64(200 + chance.Intn(1000)))
		}
		for b.t.Len() < 100 {
			b.grow(t, chance, 1+chance.Intn(3))
			stranger := strangers(b.t.Len())[chance.Intn(14)]
			if n, e := b.t.Add(stranger); n != 0 || e != api.ErrNone {
				t.Fatalf("Add(%d): %d, %v", stranger, n, e)
			}
			stands(t, b)
		}
	}
}

// Many trees of hundreds of nodes, each of several habits, one behind the other.
func TestManyTrees(t *testing.T) {
	dealt := 0
	for seed := range int64(60) {
		chance := rand.New(rand.NewSource(seed))
		b := begun()
		b.grow(t, chance, 100+chance.Intn(500))
		stands(t, b)
		dealt += b.t.Dealt()
	}
	if dealt == 0 {
		t.Error("none was ever dealt anew")
	}
}

// Nodes come under that of all that has the least room, so that intervals are dealt anew as often as can be.
func TestLeastRoomFirst(t *testing.T) {
	for _, upper := range []uint64{1000, 1 << 16, 1 << 30, 1 << 62} {
		b := narrow(upper)
		for b.t.Len() < 300 {
			l := b.intervals(t)
			left := make([]uint64, len(l))
			for n, i := range l {
				left[n] += i.upper - i.lower
				if n > 0 {
					left[b.m.parents[n]] -= i.width()
				}
			}
			b.add(t, slices.Index(left, slices.Min(left)))
		}
		stands(t, b)
	}
}

// The same tree, whose nodes come in another order in which they may: the same answers, by the nodes' new numbers.
func TestAnyOrder(t *testing.T) {
	for seed := range int64(40) {
		chance := rand.New(rand.NewSource(seed))
		b, o := begun(), begun()
		b.grow(t, chance, 150)
		numbers := make([]int, b.t.Len()) // of each node, its number in the other tree; 0: it has not come yet
		for o.t.Len() < b.t.Len() {
			n := 1 + chance.Intn(b.t.Len()-1)
			if p := b.m.parents[n]; numbers[n] == 0 && (p == 0 || numbers[p] > 0) {
				numbers[n] = o.add(t, numbers[p])
			}
		}
		stands(t, o)
		for x := range numbers {
			depth, _ := b.t.Depth(x)
			size, _ := b.t.Size(x)
			number(t, "Depth", o.t.Depth, numbers[x], depth)
			number(t, "Size", o.t.Size, numbers[x], size)
			for y := range numbers {
				if b.t.Under(x, y) != o.t.Under(numbers[x], numbers[y]) {
					t.Fatalf("%d: Under(%d, %d)", seed, x, y)
				}
			}
		}
	}
}

// Under is an order, of which all that stand above one are a chain.
func TestOrder(t *testing.T) {
	for seed := range int64(20) {
		b := begun()
		b.grow(t, rand.New(rand.NewSource(seed)), 60)
		for x := range b.m.parents {
			for y := range b.m.parents {
				if x != y && b.t.Under(x, y) && b.t.Under(y, x) {
					t.Fatalf("%d: %d and %d stand under each other", seed, x, y)
				}
				for z := range b.m.parents {
					if b.t.Under(x, y) && b.t.Under(y, z) && !b.t.Under(x, z) {
						t.Fatalf("%d: %d, %d, %d are no row", seed, x, y, z)
					}
					if b.t.Under(x, y) && b.t.Under(x, z) && !b.t.Under(y, z) && !b.t.Under(z, y) {
						t.Fatalf("%d: %d stands under %d and %d", seed, x, y, z)
					}
				}
			}
		}
	}
}
