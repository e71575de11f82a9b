package dag_test

import (
	"math/rand"
	"slices"
	"testing"

	"plexus/api"
	"plexus/dag"
)

// The past, the future, the anticone of one and itself are all, each once.
func TestAllEachOnce(t *testing.T) {
	for seed := range int64(200) {
		chance := rand.New(rand.NewSource(seed))
		b := someGraph(t, chance, 1+chance.Intn(90))
		for id := range b.g.All() {
			past, future, anticone := b.g.Past(id), b.g.Future(id), b.g.Anticone(id)
			if !isRising(past) || !isRising(future) || !isRising(anticone) {
				t.Fatalf("%d: some do not rise", seed)
			}
			all := slices.Concat(past, future, anticone, []api.Hash{id})
			if got := dag.Sorted(all); len(got) != len(all) || !slices.Equal(got, dag.Sorted(b.m.ids)) {
				t.Fatalf("%d: %d of %d", seed, len(all), len(b.m.ids))
			}
		}
		parted(t, b)
	}
}

// Before is an order: none stands ahead of itself, none of two ahead of each other, and what stands ahead of what stands
// ahead of one stands ahead of it; parents do.
func TestOrder(t *testing.T) {
	for seed := range int64(100) {
		chance := rand.New(rand.NewSource(seed))
		b := someGraph(t, chance, 1+chance.Intn(40))
		for _, x := range b.m.ids {
			for _, p := range b.m.parents[x] {
				if !b.g.Before(p, x) {
					t.Fatalf("%d: a parent does not stand ahead", seed)
				}
			}
			if b.g.Before(x, x) || b.g.Before(b.g.Root(), x) != (x != b.g.Root()) {
				t.Fatalf("%d: one stands ahead of itself, or not behind the root", seed)
			}
			for _, y := range b.m.ids {
				if b.g.Before(x, y) && b.g.Before(y, x) {
					t.Fatalf("%d: both stand ahead", seed)
				}
				for _, z := range b.m.ids {
					if b.g.Before(x, y) && b.g.Before(y, z) && !b.g.Before(x, z) {
						t.Fatalf("%d: three do not stand in a row", seed)
					}
				}
			}
		}
	}
}

// Before tells what Past, Future and Anticone tell.
func TestBeforeIsThePast(t *testing.T) {
	for seed := range int64(100) {
		chance := rand.New(rand.NewSource(seed))
		b := someGraph(t, chance, 1+chance.Intn(150))
		for range 200 {
			x, y := b.m.ids[chance.Intn(len(b.m.ids))], b.m.ids[chance.Intn(len(b.m.ids))]
			ahead, behind := b.g.Before(x, y), b.g.Before(y, x)
			if slices.Contains(b.g.Past(y), x) != ahead || slices.Contains(b.g.Future(x), y) != ahead || slices.Contains(b.g.Anticone(x), y) != (!ahead && !behind && x != y) {
				t.Fatalf("%d: %.4x, %.4x", seed, x, y)
			}
		}
	}
}

// The same ones in another order in which they may come, their parents in another order, too: the same answers, but All.
func TestAnyOrder(t *testing.T) {
	for seed := range int64(100) {
		chance := rand.New(rand.NewSource(seed))
		b := someGraph(t, chance, 1+chance.Intn(100))
		o := begun(b.m.ids[0])
		for len(o.m.ids) < len(b.m.ids) {
			id := b.m.ids[chance.Intn(len(b.m.ids))]
			parents := slices.Clone(b.m.parents[id])
			chance.Shuffle(len(parents), func(i, j int) { parents[i], parents[j] = parents[j], parents[i] })
			if may := !slices.ContainsFunc(parents, func(p api.Hash) bool { return !o.m.has(p) }); may && !o.m.has(id) {
				o.add(t, id, parents...)
			}
		}
		stands(t, o)
		same(t, "Tips", o.g.Tips(), b.g.Tips())
		for _, id := range b.m.ids {
			parents, _ := b.g.Parents(id)
			asked(t, "Parents", o.g.Parents, id, parents)
			children, _ := b.g.Children(id)
			asked(t, "Children", o.g.Children, id, children)
			same(t, "Past", o.g.Past(id), b.g.Past(id))
			same(t, "Future", o.g.Future(id), b.g.Future(id))
			same(t, "Anticone", o.g.Anticone(id), b.g.Anticone(id))
		}
	}
}
