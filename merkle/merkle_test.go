package merkle_test

import (
	"encoding/binary"
	"encoding/hex"
	"math"
	"math/bits"
	"slices"
	"testing"

	"plexus/api"
	"plexus/merkle"
	"plexus/sha"
)

// The chapter's words, one by one.

func leaf(id api.Hash) api.Hash {
	return sha.Tag("leaf", id[:])
}

func knot(left, right api.Hash) api.Hash {
	return sha.Tag("knot", left[:], right[:])
}

func rootOf(count int, top ...api.Hash) api.Hash {
	b := binary.LittleEndian.AppendUint64(nil, uint64(count))
	for _, h := range top {
		b = append(b, h[:]...)
	}
	return sha.Tag("root", b)
}

// under is how many of some hashes stand under the left one of the topmost two: the greatest power of 2 below how many there are.
func under(count int) int {
	return 1 << (bits.Len(uint(count-1)) - 1)
}

// top is what is left of the rows, from above on, so that it shares no way with what it tests.
func top(ids []api.Hash) api.Hash {
	if len(ids) == 1 {
		return leaf(ids[0])
	}
	k := under(len(ids))
	return knot(top(ids[:k]), top(ids[k:]))
}

func wantRoot(ids []api.Hash) api.Hash {
	if len(ids) == 0 {
		return rootOf(0)
	}
	return rootOf(len(ids), top(ids))
}

// beside is what stands beside the n-th, row by row, from above on.
func beside(n int, ids []api.Hash) []api.Hash {
	if len(ids) == 1 {
		return nil
	}
	k := under(len(ids))
	if n < k {
		return append(beside(n, ids[:k]), top(ids[k:]))
	}
	return append(beside(n-k, ids[k:]), top(ids[:k]))
}

// some are so many unlike hashes.
func some(count int) []api.Hash {
	ids := make([]api.Hash, count)
	for i := range ids {
		ids[i] = api.Hash{byte(i + 1), byte((i + 1) >> 8), byte((i + 1) >> 16)}
	}
	return ids
}

func pathOf(t *testing.T, n int, ids ...api.Hash) api.Path {
	t.Helper()
	p, e := merkle.Path(n, ids...)
	if e != api.OK {
		t.Fatalf("path of %d of %d: %v", n, len(ids), e)
	}
	return p
}

func TestRootExamples(t *testing.T) {
	l := some(8)
	a, b, c, d := leaf(l[0]), leaf(l[1]), leaf(l[2]), leaf(l[3])
	e, f, g, h := leaf(l[4]), leaf(l[5]), leaf(l[6]), leaf(l[7])
	four := knot(knot(a, b), knot(c, d))
	for count, want := range map[int]api.Hash{
		0: rootOf(0),
		1: rootOf(1, a),
		2: rootOf(2, knot(a, b)),
		3: rootOf(3, knot(knot(a, b), c)),
		4: rootOf(4, four),
		5: rootOf(5, knot(four, e)),
		6: rootOf(6, knot(four, knot(e, f))),
		7: rootOf(7, knot(four, knot(knot(e, f), g))),
		8: rootOf(8, knot(four, knot(knot(e, f), knot(g, h)))),
	} {
		if r := merkle.Root(l[:count]...); r != want {
			t.Errorf("%d: %x, want %x", count, r, want)
		}
	}
}

// The texts were found by another program.
func TestRootBytes(t *testing.T) {
	for count, want := range map[int]string{
		0:   "8c751229625254ea6522eff2db3a52fbdc9ca0bec2420735c494656f492d45ca",
		1:   "08161e9fcb312151e2d03c34dfb6e579ff0ede27a30229851f7bb246fedaeb7c",
		2:   "e224c3e743e964ad960c77f0052f309f4c0a2473312dc9519857c35570bff727",
		3:   "608d34d902710401ae613c3616736409d54f804d39b7497bc937f5e0bcf13a78",
		4:   "d404e64589f3d71742acbd5551d0433f51d3e9ef1ea828bdaa5cb2bc1cbb605d",
		5:   "d6f04faedc792fa106e58ae23ea9b5e835b874191bcc669ca7e7cd8a84426a8c",
		7:   "49b88016a42724790747f70912edfd6f37164d90e200776e0b94182cdcf03331",
		8:   "35f3258f6426623fc8a7c862f9e3066dafcba2bd0a8af8cb7356b4dbf9bb297f",
		300: "05efae9c46a08b4e69b60fae7d4135b0e04dedaa430e2038aa3a318a7739132c",
	} {
		if r := merkle.Root(some(count)...); hex.EncodeToString(r[:]) != want {
			t.Errorf("%d: %x, want %s", count, r, want)
		}
	}
}

func TestRoot(t *testing.T) {
	for _, count := range []int{127, 128, 129, 255, 256, 257, 1000} {
		if ids := some(count); merkle.Root(ids...) != wantRoot(ids) {
			t.Errorf("%d: another root", count)
		}
	}
	seen := map[api.Hash]int{}
	for count := range 70 {
		ids := some(count)
		r := merkle.Root(ids...)
		if r != wantRoot(ids) {
			t.Errorf("%d: another root", count)
		}
		seen[r]++
	}
	if len(seen) != 70 {
		t.Errorf("%d unlike roots of 70", len(seen))
	}
	if merkle.Root() != merkle.Root([]api.Hash{}...) || merkle.Root() == (api.Hash{}) {
		t.Error("root of none")
	}
}

// A root tells how many there are, in which order, and a leaf from a knot.
func TestRootsAreUnlike(t *testing.T) {
	a, b, c, d := api.Hash{1}, api.Hash{2}, api.Hash{3}, api.Hash{4}
	all := [][]api.Hash{
		{}, {{}}, {{}, {}}, {a}, {b}, {a, a}, {a, a, a}, {a, b}, {b, a}, {a, b, c}, {b, a, c}, {a, c, b}, {c, a, b},
		{a, b, c, c}, {a, b, c, d}, {c, d, a, b}, {a, b, c, d, d}, {a, b, c, d, c, d},
		{leaf(a)}, {knot(leaf(a), leaf(b))}, {knot(leaf(a), leaf(b)), c}, {leaf(a), leaf(b)}, {knot(a, b)}, {merkle.Root(a)}, {merkle.Root(a, b)},
	}
	seen := map[api.Hash]int{}
	for i, ids := range all {
		r := merkle.Root(ids...)
		if j, is := seen[r]; is {
			t.Errorf("%d and %d have one root", j, i)
		}
		seen[r] = i
	}
}

func TestPathExamples(t *testing.T) {
	l := some(5)
	a, b, c, d, e := leaf(l[0]), leaf(l[1]), leaf(l[2]), leaf(l[3]), leaf(l[4])
	for _, x := range []struct {
		n, count int
		want     []api.Hash
	}{
		{0, 1, nil},
		{0, 2, []api.Hash{b}},
		{1, 2, []api.Hash{a}},
		{0, 3, []api.Hash{b, c}},
		{1, 3, []api.Hash{a, c}},
		{2, 3, []api.Hash{knot(a, b)}},
		{0, 4, []api.Hash{b, knot(c, d)}},
		{1, 4, []api.Hash{a, knot(c, d)}},
		{2, 4, []api.Hash{d, knot(a, b)}},
		{3, 4, []api.Hash{c, knot(a, b)}},
		{3, 5, []api.Hash{c, knot(a, b), e}},
		{4, 5, []api.Hash{knot(knot(a, b), knot(c, d))}},
	} {
		p, err := merkle.Path(x.n, l[:x.count]...)
		if err != api.OK || p.N != x.n || p.Count != x.count || !slices.Equal(p.Hashes, x.want) {
			t.Errorf("%d of %d: %v, %v", x.n, x.count, p, err)
		}
	}
}

func TestPath(t *testing.T) {
	for _, count := range []int{1, 2, 3, 4, 5, 6, 7, 8, 9, 15, 16, 17, 31, 33, 63, 64, 65, 100} {
		ids := some(count)
		for n := range ids {
			p, e := merkle.Path(n, ids...)
			if e != api.OK || p.N != n || p.Count != count || !slices.Equal(p.Hashes, beside(n, ids)) {
				t.Errorf("%d of %d: %v, %v", n, count, p, e)
			}
			if size, e := merkle.Size(n, count); e != api.OK || size != len(p.Hashes) {
				t.Errorf("size of %d of %d: %d, %v; want %d", n, count, size, e, len(p.Hashes))
			}
		}
	}
}

func TestNoSuchPlace(t *testing.T) {
	for _, x := range []struct{ n, count int }{
		{0, 0}, {-1, 0}, {1, 0}, {-1, 1}, {1, 1}, {2, 1}, {-1, 5}, {-5, 5}, {5, 5}, {6, 5}, {8, 5},
		{math.MinInt, 5}, {math.MaxInt, 5}, {math.MinInt, 0}, {math.MaxInt, 0},
	} {
		if p, e := merkle.Path(x.n, some(x.count)...); e != api.ErrArg || p.N != 0 || p.Count != 0 || len(p.Hashes) != 0 {
			t.Errorf("path of %d of %d: %v, %v", x.n, x.count, p, e)
		}
		if size, e := merkle.Size(x.n, x.count); e != api.ErrArg || size != 0 {
			t.Errorf("size of %d of %d: %d, %v", x.n, x.count, size, e)
		}
	}
}

func TestSize(t *testing.T) {
	for _, x := range []struct{ n, count, want int }{
		{0, 1, 0}, {0, 2, 1}, {1, 2, 1}, {0, 3, 2}, {1, 3, 2}, {2, 3, 1}, {0, 5, 3}, {3, 5, 3}, {4, 5, 1}, {4, 6, 2}, {5, 6, 2}, {6, 7, 2}, {7, 8, 3}, {8, 9, 1}, {8, 11, 3}, {10, 11, 2},
		{0, api.MaxLeaves, 20}, {api.MaxLeaves - 1, api.MaxLeaves, 20}, {api.MaxLeaves / 2, api.MaxLeaves, 20},
		{api.MaxLeaves - 2, api.MaxLeaves - 1, 19}, {api.MaxLeaves / 2, api.MaxLeaves/2 + 1, 1}, {api.MaxLeaves/2 - 1, api.MaxLeaves/2 + 1, 20},
	} {
		if size, e := merkle.Size(x.n, x.count); e != api.OK || size != x.want {
			t.Errorf("%d of %d: %d, %v; want %d", x.n, x.count, size, e, x.want)
		}
	}
	for _, x := range []struct{ n, count int }{
		{0, -1}, {-1, -1}, {-2, -1}, {0, math.MinInt}, {math.MinInt, math.MinInt}, {math.MinInt, math.MaxInt},
		{-1, api.MaxLeaves}, {api.MaxLeaves, api.MaxLeaves}, {0, api.MaxLeaves + 1}, {api.MaxLeaves, api.MaxLeaves + 1}, {0, 1 << 32}, {0, math.MaxInt}, {math.MaxInt - 1, math.MaxInt},
	} {
		if size, e := merkle.Size(x.n, x.count); e != api.ErrArg || size != 0 {
			t.Errorf("%d of %d: %d, %v", x.n, x.count, size, e)
		}
	}
}

func TestMaxLeaves(t *testing.T) {
	if testing.Short() {
		t.Skip("some seconds")
	}
	ids := some(api.MaxLeaves + 1)
	most := ids[:api.MaxLeaves]
	root, all := merkle.Root(most...), top(most)
	if root != rootOf(api.MaxLeaves, all) {
		t.Error("another root of MaxLeaves")
	}
	for _, n := range []int{0, api.MaxLeaves - 1} {
		p := pathOf(t, n, most...)
		if p.N != n || p.Count != api.MaxLeaves || len(p.Hashes) != 20 {
			t.Errorf("another path of %d", n)
		}
		if e := merkle.Check(root, ids[n], p); e != api.OK {
			t.Errorf("path of %d: %v", n, e)
		}
		if p, e := merkle.Path(n, ids...); e != api.ErrArg || len(p.Hashes) != 0 || p.N != 0 || p.Count != 0 {
			t.Errorf("path of %d of MaxLeaves and one more: %v", n, e)
		}
	}
	if _, e := merkle.Path(-1, ids...); e != api.ErrArg {
		t.Errorf("no such place: %v", e)
	}
	// A root is of any number, though no path is.
	if merkle.Root(ids...) != rootOf(api.MaxLeaves+1, knot(all, leaf(ids[api.MaxLeaves]))) {
		t.Error("another root of MaxLeaves and one more")
	}
}

// What is handed in stays as it is, what lies behind it too, and answers share nothing.
func TestMemory(t *testing.T) {
	memory := some(12)
	ids := memory[:7]
	p := pathOf(t, 2, ids...)
	kept := slices.Clone(p.Hashes)
	merkle.Root(ids...)
	merkle.Lead(ids[2], p)
	merkle.Check(merkle.Root(ids...), ids[2], p)
	merkle.Collide(ids[2], p, ids...)
	merkle.Collide(ids[3], p, ids...)
	if !slices.Equal(memory, some(12)) || !slices.Equal(p.Hashes, kept) {
		t.Error("what was handed in is changed")
	}
	q := pathOf(t, 2, ids...)
	q.Hashes[0] = api.Hash{}
	_ = append(q.Hashes, api.Hash{9})
	if !slices.Equal(p.Hashes, kept) || !slices.Equal(memory, some(12)) {
		t.Error("two answers share memory")
	}
	ids[3] = api.Hash{}
	if !slices.Equal(p.Hashes, kept) {
		t.Error("an answer shares memory with what was handed in")
	}
}

func BenchmarkRootOfThousand(b *testing.B) {
	ids := some(1000)
	for b.Loop() {
		merkle.Root(ids...)
	}
}
