package reach_test

import (
	"math/rand"
	"slices"
	"testing"

	"plexus/api"
)

// Behind each step of many rows of calls, taken and refused, all answers are what the parents and the selected ones alone say.
func TestEachStep(t *testing.T) {
	for seed := range int64(60) {
		chance := rand.New(rand.NewSource(seed))
		b := begun(anyHash(chance))
		for len(b.m.ids) < 45 {
			b.grow(t, chance)
			b.refuse(t, chance)
			stands(t, b)
		}
	}
}

// refuse asks for one that may not come.
func (b *both) refuse(t *testing.T, chance *rand.Rand) {
	t.Helper()
	id, there := b.newHash(chance), b.m.ids[chance.Intn(len(b.m.ids))]
	other := b.newHash(chance)
	want := []api.Errno{api.ErrExists, api.ErrParents, api.ErrParents, api.ErrNone, api.ErrArg}
	l := []func() api.Errno{
		func() api.Errno { return b.x.Add(there, b.m.ids[0], b.m.ids[0]) },
		func() api.Errno { return b.x.Add(id, there) },
		func() api.Errno { return b.x.Add(id, there, there, there) },
		func() api.Errno { return b.x.Add(id, there, there, other) },
		func() api.Errno { return b.x.Add(id, other, there) },
	}
	i := chance.Intn(len(l))
	if e := l[i](); e != want[i] {
		t.Fatalf("%v, want %v", e, want[i])
	}
}

// The same behind a chain that is long already, so that intervals are dealt anew while others come.
func TestEachStepBehindALongChain(t *testing.T) {
	dealt := 0
	for seed := range int64(8) {
		chance := rand.New(rand.NewSource(seed))
		b := begun(numbered(0))
		b.chain(t, 0, 50+chance.Intn(20))
		for range 40 {
			early := b.x.Dealt()
			b.grow(t, chance)
			if b.x.Dealt() > early {
				dealt++
			}
			stands(t, b)
		}
	}
	if dealt < 8 {
		t.Errorf("intervals were dealt anew %d times", dealt)
	}
}

// Many graphs, of any shape: all of one kind, or one kind a while and then another one.
func TestManyGraphs(t *testing.T) {
	dealt := 0
	for seed := range int64(30) {
		chance := rand.New(rand.NewSource(seed))
		b := begun(numbered(0))
		for len(b.m.ids) < 150 {
			all := kinds()
			kind := all[chance.Intn(len(all))]
			for range 1 + chance.Intn(60) {
				b.put(t, kind(chance, len(b.m.ids))...)
			}
		}
		stands(t, b)
		dealt += b.x.Dealt()
	}
	if dealt == 0 {
		t.Error("none was ever dealt anew")
	}
}

// kinds are ways of choosing the parents of the next of n, the selected one first: the last one, and any others; any ones; the
// root, and others; of two chains the next one, with the other one's end now and then; behind early ones and the last one.
func kinds() []func(chance *rand.Rand, n int) []int {
	several := func(chance *rand.Rand, first, n int) []int {
		l := []int{first}
		for range chance.Intn(4) {
			if o := chance.Intn(n); !slices.Contains(l, o) {
				l = append(l, o)
			}
		}
		return l
	}
	return []func(chance *rand.Rand, n int) []int{
		func(chance *rand.Rand, n int) []int { return several(chance, n-1, n) },
		func(chance *rand.Rand, n int) []int { return several(chance, chance.Intn(n), n) },
		func(chance *rand.Rand, n int) []int { return several(chance, 0, n) },
		func(chance *rand.Rand, n int) []int {
			if n > 2 && chance.Intn(5) == 0 {
				return []int{n - 2, n - 1}
			}
			return []int{max(0, n-2)}
		},
		func(chance *rand.Rand, n int) []int {
			if early := chance.Intn(min(n, 5)); early < n-1 {
				return []int{early, n - 1}
			}
			return []int{n - 1}
		},
	}
}

// Before is the graph's, of all pairs of graphs of many hundreds.
func TestBeforeIsTheGraphs(t *testing.T) {
	for i, kind := range kinds() {
		chance := rand.New(rand.NewSource(int64(i)))
		b := begun(numbered(0))
		for len(b.m.ids) < 700 {
			b.put(t, kind(chance, len(b.m.ids))...)
		}
		g := b.x.Graph()
		for _, x := range b.m.ids {
			for _, y := range b.m.ids {
				if b.x.Before(x, y) != g.Before(x, y) {
					t.Fatalf("%d: Before(%.8x, %.8x)", i, x, y)
				}
			}
		}
	}
}

// One stands in another one's past just if it stands on its chain, and is another one, or one of its cover does: and of a cover
// at most one stands on a chain. Who merges it are its cover.
func TestCoversTellPasts(t *testing.T) {
	for seed := range int64(40) {
		b := someIndex(t, rand.New(rand.NewSource(seed)), 90)
		r := b.m.rows()
		for n, x := range b.m.ids {
			cover, e := b.x.Cover(x)
			fine(t, e)
			for o, y := range b.m.ids {
				count := 0
				for _, c := range cover {
					if b.x.Chain(c, y) {
						count++
					}
				}
				if count > 1 || b.x.Before(x, y) != (x != y && b.x.Chain(x, y) || count > 0) {
					t.Fatalf("%d: of the cover of %.4x %d stand on the chain of %.4x", seed, x, count, y)
				}
				if o > 0 && slices.Contains(cover, y) != r.merges(n, o) {
					t.Fatalf("%d: %.4x, %.4x: one of the cover does not merge it, or another one does", seed, x, y)
				}
			}
		}
	}
}

// The same ones in another order in which they may come, their parents in another order, too: the same answers.
func TestAnyOrder(t *testing.T) {
	for seed := range int64(40) {
		chance := rand.New(rand.NewSource(seed))
		b := someIndex(t, chance, 1+chance.Intn(90))
		o := begun(b.m.ids[0])
		for len(o.m.ids) < len(b.m.ids) {
			n := chance.Intn(len(b.m.ids))
			parents := b.m.hashes(b.m.parents[n])
			chance.Shuffle(len(parents), func(i, j int) { parents[i], parents[j] = parents[j], parents[i] })
			if may := !slices.ContainsFunc(parents, func(p api.Hash) bool { return o.m.place(p) < 0 }); may && o.m.place(b.m.ids[n]) < 0 {
				o.add(t, b.m.ids[n], b.m.ids[b.m.selected[n]], parents...)
			}
		}
		stands(t, o)
		for _, x := range b.m.ids {
			cover, e := b.x.Cover(x)
			other, f := o.x.Cover(x)
			fine(t, e, f)
			same(t, "Cover", other, cover)
			same(t, "Up", slices.Collect(o.x.Up(x)), slices.Collect(b.x.Up(x)))
			for _, y := range b.m.ids {
				if b.x.Chain(x, y) != o.x.Chain(x, y) || b.x.Before(x, y) != o.x.Before(x, y) {
					t.Fatalf("%d: %.4x, %.4x", seed, x, y)
				}
			}
		}
	}
}
