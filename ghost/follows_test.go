package ghost_test

import (
	"math/rand"
	"slices"
	"testing"

	"plexus/api"
	"plexus/dag"
	"plexus/ghost"
)

// someK is a K, most often a small one.
func someK(chance *rand.Rand) int {
	return []int{0, 0, 1, 1, 2, 2, 3, 4, 6, 10, api.MaxK}[chance.Intn(11)]
}

// Behind each step of many rows of calls, taken and refused, all answers are what the pasts alone say.
func TestEachStep(t *testing.T) {
	for seed := range int64(40) {
		chance := rand.New(rand.NewSource(seed))
		b := begun(t, someK(chance), anyHash(chance))
		for len(b.m.ids) < 40 {
			b.grow(t, chance)
			b.refuse(t, chance)
			stands(t, b)
			viewed(t, b, b.some(chance, 4)...)
		}
	}
}

// refuse asks for one that may not come.
func (b *both) refuse(t *testing.T, chance *rand.Rand) {
	t.Helper()
	id, there := b.newHash(chance), b.m.ids[chance.Intn(len(b.m.ids))]
	other := b.newHash(chance)
	want := []api.Errno{api.ErrExists, api.ErrParents, api.ErrParents, api.ErrNone}
	l := []func() (api.Colour, api.Errno){
		func() (api.Colour, api.Errno) { return b.c.Add(there, b.m.ids[0]) },
		func() (api.Colour, api.Errno) { return b.c.Add(id) },
		func() (api.Colour, api.Errno) { return b.c.Add(id, there, there) },
		func() (api.Colour, api.Errno) { return b.c.Add(id, there, other) },
	}
	i := chance.Intn(len(l))
	if c, e := l[i](); e != want[i] || !isSame(c, api.Colour{}) {
		t.Fatalf("%v, %v, want %v", c, e, want[i])
	}
}

// Many graphs, of any shape, over many K: all of one kind, or one kind a while and then another one.
func TestManyGraphs(t *testing.T) {
	blue, red := 0, 0
	for seed := range int64(60) {
		chance := rand.New(rand.NewSource(seed))
		b := grownByKinds(t, chance, someK(chance), 120)
		stands(t, b)
		for range 20 {
			viewed(t, b, b.some(chance, 5)...)
		}
		for _, c := range b.m.colours {
			for _, is := range c.Blues {
				if is {
					blue++
				} else {
					red++
				}
			}
		}
	}
	if blue < 1000 || red < 1000 {
		t.Errorf("%d blue ones, %d red ones", blue, red)
	}
}

// grownByKinds is a colouring of n hashes, of one kind a while, and then of another one.
func grownByKinds(t *testing.T, chance *rand.Rand, k, n int) *both {
	t.Helper()
	b := begun(t, k, numbered(0))
	for len(b.m.ids) < n {
		all := kinds()
		kind := all[chance.Intn(len(all))]
		for range 1 + chance.Intn(60) {
			b.put(t, kind(chance, len(b.m.ids))...)
		}
	}
	return b
}

// Of no one in a blue world more than K others of it stand in the anticone.
func TestNoMoreThanK(t *testing.T) {
	isReached := false
	for seed := range int64(40) {
		chance := rand.New(rand.NewSource(seed))
		k := chance.Intn(5)
		b := grownByKinds(t, chance, k, 120)
		g := b.c.Index().Graph()
		for _, id := range b.m.ids {
			world, e := b.c.World(id)
			fine(t, e)
			is := map[api.Hash]bool{}
			for _, o := range world {
				is[o] = true
			}
			for _, o := range world {
				count := 0
				for _, beside := range g.Anticone(o) {
					if is[beside] {
						count++
					}
				}
				if count > k {
					t.Fatalf("%d: in the blue world of %.8x %d stand beside %.8x", seed, id, count, o)
				}
				isReached = isReached || k > 1 && count == k
			}
		}
	}
	if !isReached {
		t.Error("nowhere were there K")
	}
}

// Each of a merge set stands in the selected parent's anticone; the past of one is the selected parent's past, it, and the merge
// set; scores rise along pasts, and are as many as stand in the blue world, which is of the past.
func TestPastsAndScores(t *testing.T) {
	for seed := range int64(40) {
		chance := rand.New(rand.NewSource(seed))
		b := grownByKinds(t, chance, someK(chance), 100)
		x := b.c.Index()
		for _, id := range b.m.ids[1:] {
			c, e := b.c.Get(id)
			fine(t, e)
			for _, o := range c.Merge {
				if o == c.Selected || x.Before(o, c.Selected) || x.Before(c.Selected, o) {
					t.Fatalf("%d: %.8x does not stand beside %.8x", seed, o, c.Selected)
				}
			}
			past := x.Graph().Past(id)
			same(t, "the past", rising(append(append(x.Graph().Past(c.Selected), c.Selected), c.Merge...)), past)
			for _, o := range past {
				if other, e := b.c.Get(o); e != api.OK || other.Score >= c.Score {
					t.Fatalf("%d: %.8x has %d, %.8x behind it %d, %v", seed, o, other.Score, id, c.Score, e)
				}
			}
			world, e := b.c.World(id)
			fine(t, e)
			if uint64(len(world)) != c.Score || !isWithin(world, past) {
				t.Fatalf("%d: a score of %d, a blue world of %d", seed, c.Score, len(world))
			}
		}
	}
}

// isWithin answers whether all of some are among others that rise.
func isWithin(l, others []api.Hash) bool {
	return !slices.ContainsFunc(l, func(id api.Hash) bool {
		_, is := slices.BinarySearchFunc(others, id, dag.Compare)
		return !is
	})
}

// The same ones in other orders in which they may come, their parents in other orders, too: the same colours.
func TestAnyOrder(t *testing.T) {
	for seed := range int64(40) {
		chance := rand.New(rand.NewSource(seed))
		b := someColours(t, chance, someK(chance), 1+chance.Intn(90))
		for range 3 {
			o := b.anew(t, chance)
			for n, id := range b.m.ids {
				coloured(t, "Get", b.m.colours[n])(o.Get(id))
				world, e := o.World(id)
				fine(t, e)
				same(t, "World", world, b.m.world(n))
				other := b.m.ids[chance.Intn(len(b.m.ids))]
				want, _ := b.m.view(n, b.m.place(other))
				coloured(t, "View", want)(o.View(id, other))
				if o.Blue(other, id) != b.c.Blue(other, id) || o.Best(other, id) != b.c.Best(other, id) {
					t.Fatalf("%d: %.4x, %.4x", seed, other, id)
				}
			}
		}
	}
}

// anew is a colouring of the same ones, in some other order.
func (b *both) anew(t *testing.T, chance *rand.Rand) *ghost.Colours {
	t.Helper()
	c, e := ghost.New(b.m.k, b.m.ids[0])
	fine(t, e)
	for c.Index().Graph().Len() < len(b.m.ids) {
		n := chance.Intn(len(b.m.ids))
		if _, e := c.Get(b.m.ids[n]); e == api.OK {
			continue
		}
		parents := b.m.hashes(b.m.parents[n])
		chance.Shuffle(len(parents), func(i, j int) { parents[i], parents[j] = parents[j], parents[i] })
		if slices.ContainsFunc(parents, func(p api.Hash) bool { return !c.Index().Graph().Has(p) }) {
			continue
		}
		coloured(t, "Add", b.m.colours[n])(c.Add(b.m.ids[n], parents...))
	}
	return c
}
