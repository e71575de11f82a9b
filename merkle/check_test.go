package merkle_test

import (
	"math"
	"slices"
	"testing"

	"plexus/api"
	"plexus/merkle"
)

// wantNone asks of a path that it checks for no root.
func wantNone(t *testing.T, name string, id api.Hash, p api.Path, roots ...api.Hash) {
	t.Helper()
	if h, e := merkle.Lead(id, p); e != api.ErrProof || h != (api.Hash{}) {
		t.Errorf("%s: leads to %x, %v", name, h, e)
	}
	for _, root := range append(roots, api.Hash{}) {
		if e := merkle.Check(root, id, p); e != api.ErrProof {
			t.Errorf("%s: checks: %v", name, e)
		}
	}
}

// wantOther asks of a path that it leads somewhere, but not to the root.
func wantOther(t *testing.T, name string, root, id api.Hash, p api.Path) {
	t.Helper()
	if h, e := merkle.Lead(id, p); e != api.OK || h == root {
		t.Errorf("%s: leads to %x, %v", name, h, e)
	}
	if e := merkle.Check(root, id, p); e != api.ErrProof {
		t.Errorf("%s: checks: %v", name, e)
	}
}

func TestLeadExamples(t *testing.T) {
	id, x, y := api.Hash{1}, api.Hash{2}, api.Hash{3}
	for i, c := range []struct {
		p    api.Path
		want api.Hash
	}{
		{api.Path{N: 0, Count: 1}, rootOf(1, leaf(id))},
		{api.Path{N: 0, Count: 1, Hashes: []api.Hash{}}, rootOf(1, leaf(id))},
		{api.Path{N: 0, Count: 2, Hashes: []api.Hash{x}}, rootOf(2, knot(leaf(id), x))},
		{api.Path{N: 1, Count: 2, Hashes: []api.Hash{x}}, rootOf(2, knot(x, leaf(id)))},
		{api.Path{N: 2, Count: 3, Hashes: []api.Hash{x}}, rootOf(3, knot(x, leaf(id)))},
		{api.Path{N: 1, Count: 3, Hashes: []api.Hash{x, y}}, rootOf(3, knot(knot(x, leaf(id)), y))},
		{api.Path{N: 2, Count: 4, Hashes: []api.Hash{x, y}}, rootOf(4, knot(y, knot(leaf(id), x)))},
		{api.Path{N: 4, Count: 5, Hashes: []api.Hash{x}}, rootOf(5, knot(x, leaf(id)))},
		{api.Path{N: 6, Count: 7, Hashes: []api.Hash{x, y}}, rootOf(7, knot(y, knot(x, leaf(id))))},
	} {
		if h, e := merkle.Lead(id, c.p); h != c.want || e != api.OK {
			t.Errorf("%d: %x, %v; want %x", i, h, e, c.want)
		}
		if e := merkle.Check(c.want, id, c.p); e != api.OK {
			t.Errorf("%d: %v", i, e)
		}
	}
}

func TestPathsCheck(t *testing.T) {
	for count := 1; count <= 40; count++ {
		ids := some(count)
		root := merkle.Root(ids...)
		for n, id := range ids {
			p := pathOf(t, n, ids...)
			if h, e := merkle.Lead(id, p); h != root || e != api.OK {
				t.Errorf("%d of %d: leads to %x, %v", n, count, h, e)
			}
			if e := merkle.Check(root, id, p); e != api.OK {
				t.Errorf("%d of %d: %v", n, count, e)
			}
		}
	}
}

// Whatever is changed of one path is no path to the root.
func TestChangedPath(t *testing.T) {
	for _, count := range []int{1, 2, 3, 4, 5, 7, 8} {
		ids := some(count)
		root := merkle.Root(ids...)
		for n, id := range ids {
			p := pathOf(t, n, ids...)
			wantOther(t, "another hash", root, api.Hash{99}, p)
			wantOther(t, "the leaf", root, leaf(id), p)
			wantOther(t, "another root", api.Hash{99}, id, p)
			wantOther(t, "no root", api.Hash{}, id, p)
			wantOther(t, "the root of others", merkle.Root(some(count+1)...), id, p)
			for i := range p.Hashes {
				for _, at := range []int{0, 31} {
					q := p
					q.Hashes = slices.Clone(p.Hashes)
					q.Hashes[i][at] ^= 1
					wantOther(t, "a changed bit", root, id, q)
				}
				q := p
				q.Hashes = slices.Delete(slices.Clone(p.Hashes), i, i+1)
				wantNone(t, "too few", id, q, root)
			}
			q := p
			q.Hashes = append(slices.Clone(p.Hashes), api.Hash{})
			wantNone(t, "too many", id, q, root)
			q.Hashes = append(q.Hashes, some(100)...)
			wantNone(t, "far too many", id, q, root)
			if len(p.Hashes) > 1 {
				q.Hashes = slices.Clone(p.Hashes)
				slices.Reverse(q.Hashes)
				wantOther(t, "turned round", root, id, q)
			}
		}
	}
}

// Another place, or another Count, does not check, whatever it is.
func TestOtherPlaceOrCount(t *testing.T) {
	for _, count := range []int{1, 2, 3, 4, 5, 7, 8} {
		ids := some(count)
		root := merkle.Root(ids...)
		for n, id := range ids {
			p := pathOf(t, n, ids...)
			for otherN := -2; otherN < 18; otherN++ {
				for otherCount := -2; otherCount < 18; otherCount++ {
					q := api.Path{N: otherN, Count: otherCount, Hashes: p.Hashes}
					want := api.ErrProof
					if otherN == n && otherCount == count {
						want = api.OK
					}
					if e := merkle.Check(root, id, q); e != want {
						t.Errorf("%d of %d as %d of %d: %v", n, count, otherN, otherCount, e)
					}
				}
			}
		}
	}
}

// The path of one place, under another one's number, does not check for the hash there either.
func TestPathOfAnother(t *testing.T) {
	ids := some(8)
	root := merkle.Root(ids...)
	for n := range ids {
		for m, id := range ids {
			if n == m {
				continue
			}
			p := pathOf(t, n, ids...)
			wantOther(t, "path of another", root, id, p)
			p.N = m
			wantOther(t, "path of another, its place changed", root, id, p)
		}
	}
}

func TestNoPath(t *testing.T) {
	ids := some(4)
	root := merkle.Root(ids...)
	hashes := pathOf(t, 0, ids...).Hashes
	for _, x := range []struct{ n, count int }{
		{0, 0}, {0, -1}, {-1, -1}, {-1, 0}, {-1, 1}, {1, 1}, {-1, 4}, {4, 4}, {5, 4}, {-4, 4}, {math.MinInt, 4}, {math.MaxInt, 4},
		{0, math.MinInt}, {math.MinInt, math.MinInt}, {0, math.MaxInt}, {math.MaxInt - 1, math.MaxInt}, {0, api.MaxLeaves + 1}, {api.MaxLeaves, api.MaxLeaves + 1}, {4 + 1<<32, 4},
	} {
		for size := range 25 {
			wantNone(t, "no place", ids[0], api.Path{N: x.n, Count: x.count, Hashes: append(slices.Clone(hashes), some(25)...)[:size]}, root, merkle.Root())
		}
	}
	wantNone(t, "zero", api.Hash{}, api.Path{}, merkle.Root(), root)
}

// Right numbers of hashes for the greatest Count are taken; one more leaf is above it.
func TestGreatestCount(t *testing.T) {
	p := api.Path{N: 0, Count: api.MaxLeaves, Hashes: some(20)}
	at := leaf(api.Hash{7})
	for _, h := range p.Hashes {
		at = knot(at, h)
	}
	if h, e := merkle.Lead(api.Hash{7}, p); h != rootOf(api.MaxLeaves, at) || e != api.OK {
		t.Errorf("%x, %v", h, e)
	}
	p.N, at = api.MaxLeaves-1, leaf(api.Hash{7})
	for _, h := range p.Hashes {
		at = knot(h, at)
	}
	if h, e := merkle.Lead(api.Hash{7}, p); h != rootOf(api.MaxLeaves, at) || e != api.OK {
		t.Errorf("last: %x, %v", h, e)
	}
	wantNone(t, "one more, last", api.Hash{7}, api.Path{N: api.MaxLeaves, Count: api.MaxLeaves + 1, Hashes: some(1)}, rootOf(api.MaxLeaves+1, knot(api.Hash{1, 0}, leaf(api.Hash{7}))))
	wantNone(t, "one more, first", api.Hash{7}, api.Path{N: 0, Count: api.MaxLeaves + 1, Hashes: some(21)})
}

// The same hash at two places has two paths, each of which checks at its own place.
func TestSameHashTwice(t *testing.T) {
	a, b := api.Hash{1}, api.Hash{2}
	for _, ids := range [][]api.Hash{{a, a}, {a, b, a}, {a, a, a}, {b, a, a, b}, {a, b, a, b}, {a, b, b, b, a}, {a, a, a, a, a, a, a}} {
		root := merkle.Root(ids...)
		for n, id := range ids {
			p := pathOf(t, n, ids...)
			if !slices.Equal(p.Hashes, beside(n, ids)) {
				t.Errorf("%v: another path of %d", ids, n)
			}
			if e := merkle.Check(root, id, p); e != api.OK {
				t.Errorf("%v: path of %d: %v", ids, n, e)
			}
			wantOther(t, "another hash", root, api.Hash{3}, p)
		}
	}
	// A pair of one hash is the same from both sides; so it stands at both places.
	p := pathOf(t, 0, a, a)
	p.N = 1
	if e := merkle.Check(merkle.Root(a, a), a, p); e != api.OK {
		t.Errorf("from the other side: %v", e)
	}
	if x, y, is := merkle.Collide(a, p, a, a); len(x) != 0 || len(y) != 0 || is {
		t.Error("from the other side: something collides")
	}
	// Its last one twice is another list.
	p = pathOf(t, 3, a, b, a, a)
	wantOther(t, "the last one twice", merkle.Root(a, b, a), a, p)
	p = pathOf(t, 2, a, b, a)
	wantOther(t, "the last one once", merkle.Root(a, b, a, a), a, p)
}
