package reach_test

import (
	"encoding/binary"
	"math/rand"
	"slices"
	"sort"
	"testing"

	"plexus/api"
	"plexus/reach"
	"plexus/tree"
)

// named is a hash that begins with a name, so that hashes rise as their names do.
func named(name string) api.Hash {
	var h api.Hash
	copy(h[:], name)
	return h
}

// names are the hashes of some names of one byte each.
func names(s string) []api.Hash {
	var l []api.Hash
	for i := range len(s) {
		l = append(l, named(s[i:i+1]))
	}
	return l
}

// numbered is the hash of a number; those of rising numbers rise.
func numbered(n int) api.Hash {
	var h api.Hash
	binary.BigEndian.PutUint64(h[:], uint64(n))
	return h
}

// fine asks that none of the calls was refused.
func fine(t *testing.T, l ...api.Errno) {
	t.Helper()
	for i, e := range l {
		if e != api.OK {
			t.Fatalf("%d: %v", i, e)
		}
	}
}

func same(t *testing.T, what string, got, want []api.Hash) {
	t.Helper()
	if !slices.Equal(got, want) {
		t.Fatalf("%s: %.4x, want %.4x", what, got, want)
	}
}

// rising are hashes by the text of their bytes.
func rising(l []api.Hash) []api.Hash {
	l = slices.Clone(l)
	sort.Slice(l, func(i, j int) bool { return string(l[i][:]) < string(l[j][:]) })
	return l
}

// model is a graph with selected parents, by definition, each one told by its place among those that came. The root's selected
// parent is -1.
type model struct {
	ids      []api.Hash
	parents  [][]int
	selected []int
}

func (m *model) place(id api.Hash) int {
	return slices.Index(m.ids, id)
}

func (m *model) copy() *model {
	c := &model{slices.Clone(m.ids), slices.Clone(m.parents), slices.Clone(m.selected)}
	for n, l := range c.parents {
		c.parents[n] = slices.Clone(l)
	}
	return c
}

// hashes are those of some places.
func (m *model) hashes(l []int) []api.Hash {
	var ids []api.Hash
	for _, n := range l {
		ids = append(ids, m.ids[n])
	}
	return ids
}

// up are those on the chain of one, from it to the root.
func (m *model) up(n int) []int {
	var l []int
	for ; n >= 0; n = m.selected[n] {
		l = append(l, n)
	}
	return l
}

// rows tell of each one which ones stand on its chain, and which in its past.
type rows struct {
	m             *model
	chains, pasts [][]bool
}

func (m *model) rows() *rows {
	r := &rows{m: m}
	for n := range m.ids {
		chain, past := make([]bool, len(m.ids)), make([]bool, len(m.ids))
		if n > 0 {
			copy(chain, r.chains[m.selected[n]])
		}
		chain[n] = true
		for _, p := range m.parents[n] {
			past[p] = true
			for o := range r.pasts[p] {
				past[o] = past[o] || r.pasts[p][o]
			}
		}
		r.chains, r.pasts = append(r.chains, chain), append(r.pasts, past)
	}
	return r
}

// beside answers whether a stands in b's past, but not on b's chain.
func (r *rows) beside(a, b int) bool {
	return r.pasts[b][a] && !r.chains[b][a]
}

// cover are those that have a beside their chain, and of whose selected parent this is not so.
func (r *rows) cover(a int) []int {
	var l []int
	for b := range r.m.ids {
		if r.beside(a, b) && !r.beside(a, r.m.selected[b]) {
			l = append(l, b)
		}
	}
	return l
}

// merges answers whether a stands in b's past, but is not b's selected parent, nor stands in the past of that.
func (r *rows) merges(a, b int) bool {
	s := r.m.selected[b]
	return r.pasts[b][a] && a != s && !r.pasts[s][a]
}

// next is the one on b's chain whose selected parent is a; -1: there is none.
func (r *rows) next(a, b int) int {
	for c, is := range r.chains[b] {
		if is && r.m.selected[c] == a {
			return c
		}
	}
	return -1
}

// fork is the one of those on both chains on whose chain all these stand.
func (r *rows) fork(a, b int) int {
	var l []int // the last one that came first, since it is most likely the one
	for c := len(r.m.ids) - 1; c >= 0; c-- {
		if r.chains[a][c] && r.chains[b][c] {
			l = append(l, c)
		}
	}
	i := slices.IndexFunc(l, func(c int) bool {
		return !slices.ContainsFunc(l, func(d int) bool { return !r.chains[c][d] })
	})
	return l[i]
}

// both is an index, and what it should be.
type both struct {
	x *reach.Index
	m *model
}

func begun(root api.Hash) *both {
	return &both{reach.New(root), &model{ids: []api.Hash{root}, parents: [][]int{nil}, selected: []int{-1}}}
}

func (b *both) copy() *both {
	return &both{b.x.Copy(), b.m.copy()}
}

func (b *both) add(t *testing.T, id, selected api.Hash, parents ...api.Hash) {
	t.Helper()
	fine(t, b.x.Add(id, selected, parents...))
	var l []int
	for _, p := range parents {
		l = append(l, b.m.place(p))
	}
	b.m.selected = append(b.m.selected, b.m.place(selected))
	b.m.ids, b.m.parents = append(b.m.ids, id), append(b.m.parents, l)
}

// put adds the next number's hash, behind ones that are told by their places, the first of which is selected.
func (b *both) put(t *testing.T, parents ...int) int {
	t.Helper()
	n := len(b.m.ids)
	b.add(t, numbered(n), b.m.ids[parents[0]], b.m.hashes(parents)...)
	return n
}

// chain puts n ones, each behind the one ahead of it, the first one behind one, and answers the last one.
func (b *both) chain(t *testing.T, behind, n int) int {
	t.Helper()
	for range n {
		behind = b.put(t, behind)
	}
	return behind
}

// grown is an index whose root is the first line's name; each other line is a name, and its parents' names, of which the first
// one is selected.
func grown(t *testing.T, lines ...string) *both {
	t.Helper()
	b := begun(names(lines[0])[0])
	for _, line := range lines[1:] {
		l := names(line)
		b.add(t, l[0], l[1], l[1:]...)
	}
	return b
}

// stands asks that all answers about b's index are what they should be.
func stands(t *testing.T, b *both) {
	t.Helper()
	r := b.m.rows()
	for n, id := range b.m.ids {
		covered(t, b, r, n)
		same(t, "Up", slices.Collect(b.x.Up(id)), b.m.hashes(b.m.up(n)))
		if n > 0 {
			told(t, "Selected", b.m.ids[b.m.selected[n]])(b.x.Selected(id))
		}
		for o, other := range b.m.ids {
			if got := b.x.Chain(id, other); got != r.chains[o][n] {
				t.Fatalf("Chain(%.4x, %.4x): %t", id, other, got)
			}
			if got := b.x.Before(id, other); got != r.pasts[o][n] {
				t.Fatalf("Before(%.4x, %.4x): %t", id, other, got)
			}
			told(t, "Fork", b.m.ids[r.fork(n, o)])(b.x.Fork(id, other))
			if next := r.next(n, o); next >= 0 {
				told(t, "Next", b.m.ids[next])(b.x.Next(id, other))
			} else if got, e := b.x.Next(id, other); e != api.ErrNone || got != (api.Hash{}) {
				t.Fatalf("Next(%.4x, %.4x): %.4x, %v", id, other, got, e)
			}
		}
	}
	if got, e := b.x.Selected(b.m.ids[0]); e != api.ErrNone || got != (api.Hash{}) {
		t.Fatalf("Selected of the root: %.4x, %v", got, e)
	}
	drawn(t, b, r)
}

// covered asks that one's cover is what it should be.
func covered(t *testing.T, b *both, r *rows, n int) {
	t.Helper()
	got, e := b.x.Cover(b.m.ids[n])
	fine(t, e)
	same(t, "Cover", got, rising(b.m.hashes(r.cover(n))))
}

// told asks that a call answers a hash.
func told(t *testing.T, what string, want api.Hash) func(api.Hash, api.Errno) {
	return func(got api.Hash, e api.Errno) {
		t.Helper()
		if got != want || e != api.OK {
			t.Fatalf("%s: %.4x, %v; want %.4x", what, got, e, want)
		}
	}
}

// drawn asks that the graph is what it should be, and that intervals were dealt as often as those of a tree of the same
// selected parents.
func drawn(t *testing.T, b *both, r *rows) {
	t.Helper()
	g := b.x.Graph()
	if g.Len() != len(b.m.ids) || g.Root() != b.m.ids[0] {
		t.Fatalf("%d, from %.4x on; want %d, from %.4x on", g.Len(), g.Root(), len(b.m.ids), b.m.ids[0])
	}
	same(t, "All", slices.Collect(g.All()), b.m.ids)
	selected := tree.New()
	for n, id := range b.m.ids {
		parents, e := g.Parents(id)
		fine(t, e)
		same(t, "Parents", parents, rising(b.m.hashes(b.m.parents[n])))
		if n > 0 {
			selected.Add(b.m.selected[n])
		}
		for o, other := range b.m.ids {
			if got := g.Before(id, other); got != r.pasts[o][n] {
				t.Fatalf("the graph's Before(%.4x, %.4x): %t", id, other, got)
			}
		}
	}
	if b.x.Dealt() != selected.Dealt() {
		t.Fatalf("dealt %d times, want %d", b.x.Dealt(), selected.Dealt())
	}
}

// anyHash is a hash of which few bytes are not nought, the first and the last one among them.
func anyHash(chance *rand.Rand) api.Hash {
	var h api.Hash
	for range 3 {
		h[[]int{0, 1, 15, 30, 31}[chance.Intn(5)]] = byte(chance.Intn(256))
	}
	return h
}

// newHash is one that is not there.
func (b *both) newHash(chance *rand.Rand) api.Hash {
	id := anyHash(chance)
	for b.m.place(id) >= 0 {
		id = anyHash(chance)
	}
	return id
}

// grow adds a new one behind some of those that are there, most often late ones. Its selected parent is any one of these, but
// most often the last of them that came, so that chains get long.
func (b *both) grow(t *testing.T, chance *rand.Rand) {
	t.Helper()
	late := 1 + chance.Intn(len(b.m.ids))
	if chance.Intn(4) > 0 {
		late = min(late, 6)
	}
	from := b.m.ids[len(b.m.ids)-late:]
	var parents []api.Hash
	last := 0
	for _, i := range chance.Perm(late)[:min(late, 1+chance.Intn(4))] {
		parents = append(parents, from[i])
		last = max(last, i)
	}
	selected := from[last]
	if chance.Intn(3) == 0 {
		selected = parents[chance.Intn(len(parents))]
	}
	b.add(t, b.newHash(chance), selected, parents...)
}

// someIndex is one of n hashes.
func someIndex(t *testing.T, chance *rand.Rand, n int) *both {
	t.Helper()
	b := begun(anyHash(chance))
	for len(b.m.ids) < n {
		b.grow(t, chance)
	}
	return b
}

// strangers are hashes none of which is there.
func (b *both) strangers() []api.Hash {
	near := b.m.ids[len(b.m.ids)-1]
	near[31] ^= 1
	far := b.m.ids[0]
	far[0] ^= 128
	l := []api.Hash{{}, named("nobody"), api.Hash(slices.Repeat([]byte{255}, 32)), near, far}
	return slices.DeleteFunc(l, func(id api.Hash) bool { return b.m.place(id) >= 0 })
}
