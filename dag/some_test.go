package dag_test

import (
	"bytes"
	"encoding/binary"
	"math/rand"
	"slices"
	"sort"
	"testing"

	"plexus/api"
	"plexus/dag"
)

// named is a hash that begins with a name, so that hashes rise as their names do.
func named(name string) api.Hash {
	var h api.Hash
	copy(h[:], name)
	return h
}

// names are the hashes of some names of one byte each.
func names(s string) []api.Hash {
	var l []api.Hash
	for i := range len(s) {
		l = append(l, named(s[i:i+1]))
	}
	return l
}

// numbered is the hash of a number; those of rising numbers rise.
func numbered(n int) api.Hash {
	var h api.Hash
	binary.BigEndian.PutUint64(h[:], uint64(n))
	return h
}

// fine asks that none of the calls was refused.
func fine(t *testing.T, l ...api.Errno) {
	t.Helper()
	for i, e := range l {
		if e != api.OK {
			t.Fatalf("%d: %v", i, e)
		}
	}
}

func same(t *testing.T, what string, got, want []api.Hash) {
	t.Helper()
	if !slices.Equal(got, want) {
		t.Fatalf("%s: %.4x, want %.4x", what, got, want)
	}
}

// set is some hashes.
type set map[api.Hash]bool

// rising are a set's hashes, by the text of their bytes.
func (s set) rising() []api.Hash {
	var l []api.Hash
	for h := range s {
		l = append(l, h)
	}
	sort.Slice(l, func(i, j int) bool { return string(l[i][:]) < string(l[j][:]) })
	return l
}

// model is a graph, by definition: who came, in order, and whose parents are who.
type model struct {
	ids     []api.Hash
	parents map[api.Hash][]api.Hash
}

func (m *model) has(id api.Hash) bool {
	return slices.Contains(m.ids, id)
}

func (m *model) copy() *model {
	c := &model{ids: slices.Clone(m.ids), parents: map[api.Hash][]api.Hash{}}
	for id, l := range m.parents {
		c.parents[id] = slices.Clone(l)
	}
	return c
}

// past is the parents of some, theirs, and so on.
func (m *model) past(ids ...api.Hash) set {
	s := set{}
	var up func(id api.Hash)
	up = func(id api.Hash) {
		for _, p := range m.parents[id] {
			if !s[p] {
				s[p] = true
				up(p)
			}
		}
	}
	for _, id := range ids {
		up(id)
	}
	return s
}

// children are who has id among its parents.
func (m *model) children(id api.Hash) set {
	s := set{}
	for _, child := range m.ids {
		if slices.Contains(m.parents[child], id) {
			s[child] = true
		}
	}
	return s
}

// pasts are the pasts of all.
func (m *model) pasts() map[api.Hash]set {
	all := map[api.Hash]set{}
	for _, id := range m.ids {
		all[id] = m.past(id)
	}
	return all
}

// both is a graph, and what it should be.
type both struct {
	g *dag.Graph
	m *model
}

func begun(root api.Hash) *both {
	return &both{dag.New(root), &model{ids: []api.Hash{root}, parents: map[api.Hash][]api.Hash{}}}
}

func (b *both) add(t *testing.T, id api.Hash, parents ...api.Hash) {
	t.Helper()
	fine(t, b.g.Add(id, parents...))
	b.m.ids = append(b.m.ids, id)
	b.m.parents[id] = slices.Clone(parents)
}

// grown is a graph whose root is the first line's name; each other line is a name, and its parents' names.
func grown(t *testing.T, lines ...string) *both {
	t.Helper()
	b := begun(names(lines[0])[0])
	for _, line := range lines[1:] {
		b.add(t, names(line)[0], names(line)[1:]...)
	}
	return b
}

// stands asks that all answers about b's graph are what they should be.
func stands(t *testing.T, b *both) {
	t.Helper()
	if b.g.Len() != len(b.m.ids) || b.g.Root() != b.m.ids[0] {
		t.Fatalf("%d, from %.4x on; want %d, from %.4x on", b.g.Len(), b.g.Root(), len(b.m.ids), b.m.ids[0])
	}
	same(t, "All", slices.Collect(b.g.All()), b.m.ids)
	tips := set{}
	for _, id := range b.m.ids {
		if !b.g.Has(id) {
			t.Fatalf("%.4x is not there", id)
		}
		children := b.m.children(id)
		if len(children) == 0 {
			tips[id] = true
		}
		asked(t, "Children", b.g.Children, id, children.rising())
		parents := set{}
		for _, p := range b.m.parents[id] {
			parents[p] = true
		}
		asked(t, "Parents", b.g.Parents, id, parents.rising())
	}
	same(t, "Tips", b.g.Tips(), tips.rising())
	parted(t, b)
}

// asked asks that a call answers a list.
func asked(t *testing.T, what string, call func(api.Hash) ([]api.Hash, api.Errno), id api.Hash, want []api.Hash) {
	t.Helper()
	got, e := call(id)
	fine(t, e)
	same(t, what, got, want)
}

// parted asks that Before, and each one's past, future and anticone, are what they should be.
func parted(t *testing.T, b *both) {
	t.Helper()
	pasts := b.m.pasts()
	for _, id := range b.m.ids {
		future, anticone := set{}, set{}
		for _, o := range b.m.ids {
			if got := b.g.Before(o, id); got != pasts[id][o] {
				t.Fatalf("Before(%.4x, %.4x): %t", o, id, got)
			}
			if pasts[o][id] {
				future[o] = true
			} else if !pasts[id][o] && o != id {
				anticone[o] = true
			}
		}
		same(t, "Past", b.g.Past(id), pasts[id].rising())
		same(t, "Future", b.g.Future(id), future.rising())
		same(t, "Anticone", b.g.Anticone(id), anticone.rising())
	}
}

// anyHash is a hash of which few bytes are not nought, the first and the last one among them.
func anyHash(chance *rand.Rand) api.Hash {
	var h api.Hash
	for range 3 {
		h[[]int{0, 1, 15, 30, 31}[chance.Intn(5)]] = byte(chance.Intn(256))
	}
	return h
}

// grow adds a new one behind some of those that are there, most often late ones, and answers it.
func (b *both) grow(t *testing.T, chance *rand.Rand) api.Hash {
	t.Helper()
	id := anyHash(chance)
	for b.m.has(id) {
		id = anyHash(chance)
	}
	late := 1 + chance.Intn(len(b.m.ids))
	if chance.Intn(4) > 0 {
		late = min(late, 6)
	}
	from := b.m.ids[len(b.m.ids)-late:]
	var parents []api.Hash
	for _, i := range chance.Perm(late)[:min(late, 1+chance.Intn(4))] {
		parents = append(parents, from[i])
	}
	b.add(t, id, parents...)
	return id
}

// someGraph is a graph of n hashes.
func someGraph(t *testing.T, chance *rand.Rand, n int) *both {
	t.Helper()
	b := begun(anyHash(chance))
	for len(b.m.ids) < n {
		b.grow(t, chance)
	}
	return b
}

// isRising answers whether each one of l stands behind the one ahead of it.
func isRising(l []api.Hash) bool {
	for i := range l {
		if i > 0 && bytes.Compare(l[i-1][:], l[i][:]) >= 0 {
			return false
		}
	}
	return true
}
