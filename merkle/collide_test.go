package merkle_test

import (
	"testing"

	"plexus/api"
	"plexus/merkle"
)

func wantNoCollision(t *testing.T, name string, id api.Hash, p api.Path, ids ...api.Hash) {
	t.Helper()
	if a, b, is := merkle.Collide(id, p, ids...); a != nil || b != nil || is {
		t.Errorf("%s: %x, %x, %v", name, a, b, is)
	}
}

// A path that does not check, or that is just that of its place, tells of nothing.
func TestNothingCollides(t *testing.T) {
	for _, count := range []int{1, 2, 3, 4, 5, 7, 8} {
		ids := some(count)
		for n, id := range ids {
			p := pathOf(t, n, ids...)
			wantNoCollision(t, "just its path", id, p, ids...)
			wantNoCollision(t, "another hash", api.Hash{99}, p, ids...)
			wantNoCollision(t, "of none", id, p)
			wantNoCollision(t, "of one more", id, p, some(count+1)...)
			wantNoCollision(t, "of one fewer", id, p, ids[:count-1]...)
			wantNoCollision(t, "of the first alone", ids[n], api.Path{N: n, Count: count}, ids[n])
			for otherN := -1; otherN <= count+1; otherN++ {
				for otherCount := -1; otherCount <= count+1; otherCount++ {
					wantNoCollision(t, "another place", id, api.Path{N: otherN, Count: otherCount, Hashes: p.Hashes}, ids...)
				}
			}
		}
	}
	wantNoCollision(t, "zero", api.Hash{}, api.Path{})
	wantNoCollision(t, "zero, of one", api.Hash{}, api.Path{}, api.Hash{})
	wantNoCollision(t, "a Count above MaxLeaves", api.Hash{1}, api.Path{N: 0, Count: api.MaxLeaves + 1, Hashes: some(21)}, some(5)...)
}

// The paths of up to two hashes out of a pool, to roots of up to five: what checks is of its place.
func TestWhatChecksIsOfItsPlace(t *testing.T) {
	a, b := api.Hash{1}, api.Hash{2}
	twice := knot(leaf(a), leaf(a))
	pool := []api.Hash{a, b, leaf(a), leaf(b), knot(leaf(a), leaf(b)), twice, knot(twice, twice)}
	lists := [][]api.Hash{{}, {a}, {a, b}, {b, a}, {a, a}, {a, b, a}, {a, b, b}, {a, a, b}, {a, b, a, b}, {a, b, a, a}, {a, a, a, a, b}}
	hashes := [][]api.Hash{nil}
	for _, x := range pool {
		hashes = append(hashes, []api.Hash{x})
		for _, y := range pool {
			hashes = append(hashes, []api.Hash{x, y})
		}
	}
	checked := 0
	for _, ids := range lists {
		root := merkle.Root(ids...)
		for _, id := range pool {
			for _, l := range hashes {
				for n := range 6 {
					for count := range 7 {
						p := api.Path{N: n, Count: count, Hashes: l}
						if merkle.Check(root, id, p) == api.OK {
							checked++
							if count != len(ids) || ids[n] != id {
								t.Errorf("%v: %v checks for %v", ids, p, id)
							}
						}
						wantNoCollision(t, "one of the pool", id, p, ids...)
					}
				}
			}
		}
	}
	// One for each place that has at most two beside it: all places but the first four of five.
	if checked != 1+2*3+3*3+4*2+1 {
		t.Errorf("%d check", checked)
	}
}
