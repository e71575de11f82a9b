package ghost_test

import (
	"encoding/binary"
	"math/rand"
	"slices"
	"sort"
	"testing"

	"plexus/api"
	"plexus/ghost"
)

// named is a hash that begins with a name, so that hashes rise as their names do.
func named(name string) api.Hash {
	var h api.Hash
	copy(h[:], name)
	return h
}

// names are the hashes of some names of one byte each.
func names(s string) []api.Hash {
	var l []api.Hash
	for i := range len(s) {
		l = append(l, named(s[i:i+1]))
	}
	return l
}

// numbered is the hash of a number; those of rising numbers rise.
func numbered(n int) api.Hash {
	var h api.Hash
	binary.BigEndian.PutUint64(h[:], uint64(n))
	return h
}

// fine asks that none of the calls was refused.
func fine(t *testing.T, l ...api.Errno) {
	t.Helper()
	for i, e := range l {
		if e != api.OK {
			t.Fatalf("%d: %v", i, e)
		}
	}
}

func same(t *testing.T, what string, got, want []api.Hash) {
	t.Helper()
	if !slices.Equal(got, want) {
		t.Fatalf("%s: %.8x, want %.8x", what, got, want)
	}
}

// sameColour asks that two colours are the same.
func sameColour(t *testing.T, what string, got, want api.Colour) {
	t.Helper()
	if !isSame(got, want) {
		t.Fatalf("%s: selected %.8x, score %d, merge set %.8x, %t; want selected %.8x, score %d, merge set %.8x, %t", what,
			got.Selected, got.Score, got.Merge, got.Blues, want.Selected, want.Score, want.Merge, want.Blues)
	}
}

func isSame(a, b api.Colour) bool {
	return a.Selected == b.Selected && a.Score == b.Score && slices.Equal(a.Merge, b.Merge) && slices.Equal(a.Blues, b.Blues)
}

// told asks that a call answers a hash.
func told(t *testing.T, what string, want api.Hash) func(api.Hash, api.Errno) {
	return func(got api.Hash, e api.Errno) {
		t.Helper()
		if got != want || e != api.OK {
			t.Fatalf("%s: %.8x, %v; want %.8x", what, got, e, want)
		}
	}
}

// coloured asks that a call answers a colour.
func coloured(t *testing.T, what string, want api.Colour) func(api.Colour, api.Errno) {
	return func(got api.Colour, e api.Errno) {
		t.Helper()
		fine(t, e)
		sameColour(t, what, got, want)
	}
}

// colour is one whose merge set is the blue names and the red ones (these behind a '-') of a text, in order.
func colour(selected string, score uint64, merge string) api.Colour {
	c := api.Colour{Selected: named(selected), Score: score}
	for i := 0; i < len(merge); i++ {
		isBlue := merge[i] != '-'
		if !isBlue {
			i++
		}
		c.Merge, c.Blues = append(c.Merge, named(merge[i:i+1])), append(c.Blues, isBlue)
	}
	return c
}

// rising are hashes by the text of their bytes.
func rising(l []api.Hash) []api.Hash {
	l = slices.Clone(l)
	sort.Slice(l, func(i, j int) bool { return string(l[i][:]) < string(l[j][:]) })
	return l
}

// set is some places.
type set map[int]bool

// model is a colouring, by definition: who came, in order, and what stands in whose past. All are told by their places.
type model struct {
	k       int
	ids     []api.Hash
	parents [][]int
	pasts   []set
	colours []api.Colour
	worlds  []set
}

func (m *model) place(id api.Hash) int {
	return slices.Index(m.ids, id)
}

func (m *model) places(ids []api.Hash) []int {
	var l []int
	for _, id := range ids {
		l = append(l, m.place(id))
	}
	return l
}

// hashes are those of some places.
func (m *model) hashes(l []int) []api.Hash {
	var ids []api.Hash
	for _, n := range l {
		ids = append(ids, m.ids[n])
	}
	return ids
}

// copy is one that goes on apart: what stands at a place stays as it is.
func (m *model) copy() *model {
	return &model{m.k, slices.Clone(m.ids), slices.Clone(m.parents), slices.Clone(m.pasts), slices.Clone(m.colours), slices.Clone(m.worlds)}
}

// past is what stands in the past of one behind some.
func (m *model) past(parents []int) set {
	s := set{}
	for _, p := range parents {
		s[p] = true
		for o := range m.pasts[p] {
			s[o] = true
		}
	}
	return s
}

// isBeside answers whether neither of two stands in the past of the other one, and they are not the same.
func (m *model) isBeside(a, b int) bool {
	return a != b && !m.pasts[a][b] && !m.pasts[b][a]
}

// beside are those of a blue world that stand in one's anticone.
func (m *model) beside(world set, n int) []int {
	var l []int
	for o := range world {
		if m.isBeside(o, n) {
			l = append(l, o)
		}
	}
	return l
}

// isLess answers whether one stands ahead of another one by rising blue scores, of equal ones by rising hashes.
func (m *model) isLess(a, b int) bool {
	if m.colours[a].Score != m.colours[b].Score {
		return m.colours[a].Score < m.colours[b].Score
	}
	return string(m.ids[a][:]) < string(m.ids[b][:])
}

// best is the one of some to which no other one is better.
func (m *model) best(l []int) int {
	return l[slices.IndexFunc(l, func(a int) bool {
		return !slices.ContainsFunc(l, func(b int) bool { return m.isLess(a, b) })
	})]
}

// mergeSet is what stands in the past of one behind some, but not in the selected one's, and is not that, in order.
func (m *model) mergeSet(selected int, others []int) []int {
	var l []int
	for o := range m.past(others) {
		if o != selected && !m.pasts[selected][o] {
			l = append(l, o)
		}
	}
	sort.Slice(l, func(i, j int) bool { return m.isLess(l[i], l[j]) })
	return l
}

// view is the colour, and the blue world, of one behind a selected one and others.
func (m *model) view(selected int, others ...int) (api.Colour, set) {
	world := set{selected: true}
	for o := range m.worlds[selected] {
		world[o] = true
	}
	c := api.Colour{Selected: m.ids[selected], Score: m.colours[selected].Score + 1}
	for _, n := range m.mergeSet(selected, others) {
		beside := m.beside(world, n)
		isBlue := len(beside) <= m.k && !slices.ContainsFunc(beside, func(o int) bool { return len(m.beside(world, o)) > m.k-1 })
		if isBlue {
			world[n] = true
			c.Score++
		}
		c.Merge, c.Blues = append(c.Merge, m.ids[n]), append(c.Blues, isBlue)
	}
	return c, world
}

// world is one's blue world, rising.
func (m *model) world(n int) []api.Hash {
	var l []int
	for o := range m.worlds[n] {
		l = append(l, o)
	}
	return rising(m.hashes(l))
}

// add puts one behind some.
func (m *model) add(id api.Hash, parents []int) {
	var c api.Colour
	world := set{}
	if len(parents) > 0 {
		c, world = m.view(m.best(parents), parents...)
	}
	m.pasts = append(m.pasts, m.past(parents))
	m.ids, m.parents = append(m.ids, id), append(m.parents, slices.Clone(parents))
	m.colours, m.worlds = append(m.colours, c), append(m.worlds, world)
}

// both is a colouring, and what it should be.
type both struct {
	c *ghost.Colours
	m *model
}

func begun(t *testing.T, k int, root api.Hash) *both {
	t.Helper()
	c, e := ghost.New(k, root)
	fine(t, e)
	m := &model{k: k}
	m.add(root, nil)
	return &both{c, m}
}

func (b *both) copy() *both {
	return &both{b.c.Copy(), b.m.copy()}
}

// add adds one, and asks that it gets the colour that it should have.
func (b *both) add(t *testing.T, id api.Hash, parents ...api.Hash) {
	t.Helper()
	got, e := b.c.Add(id, parents...)
	fine(t, e)
	b.m.add(id, b.m.places(parents))
	sameColour(t, "Add", got, b.m.colours[len(b.m.ids)-1])
}

// put adds the next number's hash, behind ones that are told by their places.
func (b *both) put(t *testing.T, parents ...int) int {
	t.Helper()
	n := len(b.m.ids)
	b.add(t, numbered(n), b.m.hashes(parents)...)
	return n
}

// chain puts n ones, each behind the one ahead of it, the first one behind one, and answers the last one.
func (b *both) chain(t *testing.T, behind, n int) int {
	t.Helper()
	for range n {
		behind = b.put(t, behind)
	}
	return behind
}

// grown is a colouring whose root is the first line's name; each other line is a name, and its parents' names.
func grown(t *testing.T, k int, lines ...string) *both {
	t.Helper()
	b := begun(t, k, named(lines[0]))
	for _, line := range lines[1:] {
		l := names(line)
		b.add(t, l[0], l[1:]...)
	}
	return b
}

// stands asks that all that is told of b's colouring, of one or of two, is what it should be.
func stands(t *testing.T, b *both) {
	t.Helper()
	for n, id := range b.m.ids {
		coloured(t, "Get", b.m.colours[n])(b.c.Get(id))
		world, e := b.c.World(id)
		fine(t, e)
		same(t, "World", world, b.m.world(n))
		for o, other := range b.m.ids {
			if got := b.c.Blue(other, id); got != b.m.worlds[n][o] {
				t.Fatalf("Blue(%.8x, %.8x): %t", other, id, got)
			}
			if got := b.c.Best(other, id); got != b.m.ids[b.m.best([]int{n, o})] {
				t.Fatalf("Best(%.8x, %.8x): %.8x", other, id, got)
			}
		}
	}
	indexed(t, b)
}

// indexed asks that the index has all, in the order in which they came, each behind its parents, its selected one among them.
func indexed(t *testing.T, b *both) {
	t.Helper()
	g := b.c.Index().Graph()
	same(t, "the graph", slices.Collect(g.All()), b.m.ids)
	for n, id := range b.m.ids {
		parents, e := g.Parents(id)
		fine(t, e)
		same(t, "Parents", parents, rising(b.m.hashes(b.m.parents[n])))
		if n > 0 {
			told(t, "Selected", b.m.colours[n].Selected)(b.c.Index().Selected(id))
		}
	}
	if b.c.K() != b.m.k {
		t.Fatalf("K: %d, want %d", b.c.K(), b.m.k)
	}
}

// viewed asks that Select and View answer what they should of some: of the best one and the others, and of each one as the
// selected one.
func viewed(t *testing.T, b *both, ids ...api.Hash) {
	t.Helper()
	l := b.m.places(ids)
	told(t, "Select", b.m.ids[b.m.best(l)])(b.c.Select(ids...))
	for _, n := range l {
		want, _ := b.m.view(n, l...)
		coloured(t, "View", want)(b.c.View(b.m.ids[n], ids...))
	}
}

// some are up to n of those that are there, each once, most often late ones.
func (b *both) some(chance *rand.Rand, n int) []api.Hash {
	late := 1 + chance.Intn(len(b.m.ids))
	if chance.Intn(4) > 0 {
		late = min(late, 8)
	}
	from := b.m.ids[len(b.m.ids)-late:]
	var l []api.Hash
	for _, i := range chance.Perm(late)[:min(late, 1+chance.Intn(n))] {
		l = append(l, from[i])
	}
	return l
}

// anyHash is a hash of which few bytes are not nought, the first and the last one among them.
func anyHash(chance *rand.Rand) api.Hash {
	var h api.Hash
	for range 3 {
		h[[]int{0, 1, 15, 30, 31}[chance.Intn(5)]] = byte(chance.Intn(256))
	}
	return h
}

// newHash is one that is not there.
func (b *both) newHash(chance *rand.Rand) api.Hash {
	id := anyHash(chance)
	for b.m.place(id) >= 0 {
		id = anyHash(chance)
	}
	return id
}

// grow adds a new one behind some of those that are there.
func (b *both) grow(t *testing.T, chance *rand.Rand) {
	t.Helper()
	b.add(t, b.newHash(chance), b.some(chance, 4)...)
}

// someColours is a colouring of n hashes.
func someColours(t *testing.T, chance *rand.Rand, k, n int) *both {
	t.Helper()
	b := begun(t, k, anyHash(chance))
	for len(b.m.ids) < n {
		b.grow(t, chance)
	}
	return b
}

// strangers are hashes none of which is there.
func (b *both) strangers() []api.Hash {
	near := b.m.ids[len(b.m.ids)-1]
	near[31] ^= 1
	far := b.m.ids[0]
	far[0] ^= 128
	l := []api.Hash{{}, named("nobody"), api.Hash(slices.Repeat([]byte{255}, 32)), near, far}
	return slices.DeleteFunc(l, func(id api.Hash) bool { return b.m.place(id) >= 0 })
}

// kinds are ways of choosing the parents of the next of n: all that came last, a number of them, as many at each step; any ones;
// of several chains the next one, with the others' ends now and then; the root, and others; one early one, or the last ones.
func kinds() []func(chance *rand.Rand, n int) []int {
	several := func(chance *rand.Rand, first, n int) []int {
		l := []int{first}
		for range chance.Intn(5) {
			if o := chance.Intn(n); !slices.Contains(l, o) {
				l = append(l, o)
			}
		}
		return l
	}
	last := func(n, first, count int) []int {
		var l []int
		for o := max(0, n-first-count); o < max(1, n-first); o++ {
			l = append(l, o)
		}
		return l
	}
	return []func(chance *rand.Rand, n int) []int{
		func(chance *rand.Rand, n int) []int { return last(n, n%4, 4) },
		func(chance *rand.Rand, n int) []int { return last(n, chance.Intn(6), 1+chance.Intn(5)) },
		func(chance *rand.Rand, n int) []int { return several(chance, n-1, n) },
		func(chance *rand.Rand, n int) []int { return several(chance, chance.Intn(n), n) },
		func(chance *rand.Rand, n int) []int { return several(chance, 0, n) },
		func(chance *rand.Rand, n int) []int {
			if n > 5 && chance.Intn(6) == 0 {
				return last(n, chance.Intn(3), 2+chance.Intn(2))
			}
			return []int{max(0, n-3)}
		},
		func(chance *rand.Rand, n int) []int {
			if chance.Intn(3) == 0 {
				return []int{chance.Intn(min(n, 5))}
			}
			return last(n, 0, 1+chance.Intn(3))
		},
	}
}
