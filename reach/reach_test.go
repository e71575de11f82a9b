package reach_test

import (
	"math/rand"
	"slices"
	"testing"

	"plexus/api"
	"plexus/dag"
	"plexus/reach"
)

func TestExample(t *testing.T) {
	b := grown(t, "r", "ar", "br", "cab")
	cover, e := b.x.Cover(named("b"))
	fine(t, e)
	same(t, "Cover(b)", cover, names("c"))
	if !b.x.Before(named("b"), named("c")) {
		t.Error("b does not stand in c's past")
	}
	stands(t, b)
}

// A root may be any hash. It stands on its own chain, not in its past; it has no selected parent, and nothing covers it.
func TestNew(t *testing.T) {
	for _, root := range []api.Hash{{}, named("r"), {31: 1}, {0: 255, 31: 255}} {
		b := begun(root)
		stands(t, b)
		if !b.x.Chain(root, root) || b.x.Before(root, root) || b.x.Graph().Len() != 1 || b.x.Dealt() != 0 {
			t.Errorf("%.4x: %d, dealt %d times", root, b.x.Graph().Len(), b.x.Dealt())
		}
		same(t, "Up", slices.Collect(b.x.Up(root)), []api.Hash{root})
		told(t, "Fork", root)(b.x.Fork(root, root))
		if cover, e := b.x.Cover(root); len(cover) > 0 || e != api.OK {
			t.Errorf("Cover: %.4x, %v", cover, e)
		}
		if id, e := b.x.Selected(root); id != (api.Hash{}) || e != api.ErrNone {
			t.Errorf("Selected: %.4x, %v", id, e)
		}
	}
	first, second := begun(named("r")), begun(named("r"))
	first.add(t, named("a"), named("r"), named("r"))
	stands(t, first)
	stands(t, second)
}

// Each one that comes is there, wherever its hash stands among the others.
func TestAdd(t *testing.T) {
	b := grown(t, "m")
	for _, line := range []string{"zm", "am", "nza", "bn", "yn", "cbyz", "0c", "1m", "x1abc", "wx0", "d1x"} {
		l := names(line)
		if b.x.Graph().Has(l[0]) || b.x.Chain(l[0], l[0]) {
			t.Fatalf("%q is there ahead of coming", line)
		}
		b.add(t, l[0], l[1], l[1:]...)
		stands(t, b)
	}
}

// Parents may be handed in in any order, wherever the selected one stands among them.
func TestParentsInAnyOrder(t *testing.T) {
	for _, line := range []string{"abc", "acb", "bac", "bca", "cab", "cba"} {
		for _, selected := range []string{"a", "b", "c"} {
			b := grown(t, "r", "br", "cr", "ab")
			b.add(t, named("z"), named(selected), names(line)...)
			stands(t, b)
			told(t, "Selected", named(selected))(b.x.Selected(named("z")))
		}
	}
}

// One's parents may stand in each other's past, the selected one among them: then that is on the chain, or beside it.
func TestBehindOneAndItsPast(t *testing.T) {
	b := grown(t, "r", "ar", "bar", "crba", "dac", "eabcdr", "fra", "gfe")
	stands(t, b)
	for _, c := range []struct{ of, want string }{{"a", "cf"}, {"b", "cdeg"}, {"c", "deg"}, {"d", "eg"}, {"e", "g"}, {"f", ""}, {"g", ""}, {"r", ""}} {
		cover, e := b.x.Cover(named(c.of))
		fine(t, e)
		same(t, "Cover("+c.of+")", cover, names(c.want))
	}
}

// One comes behind many, of chains of all lengths that have merged others; each of these is once the selected one.
func TestEachSelected(t *testing.T) {
	const wide = 8
	for selected := range wide {
		b := begun(numbered(0))
		var tips []int
		for i := range wide {
			tip := b.chain(t, 0, 1+i%4)
			if i%3 == 1 {
				tip = b.put(t, tip, tips[i-1])
			}
			tips = append(tips, tip)
		}
		tips[0], tips[selected] = tips[selected], tips[0]
		n := b.put(t, tips...)
		stands(t, b)
		told(t, "Selected", b.m.ids[tips[0]])(b.x.Selected(numbered(n)))
		b.put(t, tips[1], n)
		b.put(t, n, tips[2])
		stands(t, b)
	}
}

// What stands in the past of two that came behind unlike chains is covered by both; who comes behind these covers it no more.
func TestCoveredByMany(t *testing.T) {
	b := begun(numbered(0))
	one := b.put(t, 0)
	var want []api.Hash
	for range 70 {
		o := b.put(t, 0)
		behind := b.put(t, o, one)
		want = append(want, numbered(behind))
		b.put(t, behind, one)
		b.put(t, behind, o, one)
	}
	cover, e := b.x.Cover(numbered(one))
	fine(t, e)
	same(t, "Cover", cover, want)
	stands(t, b)
}

// A chain, so long that intervals are dealt anew, beside which others stand: some it merges, at once or much later, others not.
func TestLongChain(t *testing.T) {
	b := begun(numbered(0))
	last := 0
	var aside []int
	for i := range 150 {
		aside = append(aside, b.put(t, last))
		parents := []int{last}
		if i%3 > 0 {
			parents = append(parents, aside[max(0, i-i%7*5)])
		}
		last = b.put(t, parents...)
		if i%50 == 49 {
			stands(t, b)
		}
	}
	if b.x.Dealt() == 0 {
		t.Error("intervals were never dealt anew")
	}
}

// Two chains that merge each other now and then, both so long that intervals are dealt anew, and a third one that merges
// neither till the end.
func TestLongChains(t *testing.T) {
	b := begun(numbered(0))
	first, second, third := 0, 0, 0
	for i := range 80 {
		first, second, third = b.put(t, first), b.put(t, second), b.put(t, third)
		if i%5 == 4 {
			first = b.put(t, first, second)
		}
		if i%7 == 6 {
			second = b.put(t, second, first)
		}
	}
	stands(t, b)
	b.put(t, third, first, second)
	b.put(t, first, third)
	stands(t, b)
	if b.x.Dealt() == 0 {
		t.Error("intervals were never dealt anew")
	}
}

// Each time that intervals were dealt anew, ones come behind early ones, late ones and both, and cover others.
func TestBehindDealt(t *testing.T) {
	b := begun(numbered(0))
	chance := rand.New(rand.NewSource(1))
	last := b.chain(t, 0, 58)
	for rounds := 0; rounds < 6; rounds++ {
		for dealt, steps := b.x.Dealt(), 0; b.x.Dealt() == dealt; steps++ {
			if last = b.put(t, last); steps > 200 {
				t.Fatal("intervals are not dealt anew")
			}
		}
		for range 4 {
			early, late := chance.Intn(5), len(b.m.ids)-1-chance.Intn(8)
			n := b.put(t, early, late)
			b.put(t, late, n)
			b.put(t, early, n, last)
		}
		stands(t, b)
		last = b.put(t, last, len(b.m.ids)-1)
	}
}

// What a small graph is like, told by hand: r; a, b behind r; c behind a and b; d behind b; e behind c and d; f behind d and c;
// g behind e and f. The first one is the selected parent.
func TestLooks(t *testing.T) {
	b := grown(t, "r", "ar", "br", "cab", "db", "ecd", "fdc", "gef")
	stands(t, b)
	for _, c := range []struct{ of, cover, up string }{
		{"r", "", "r"}, {"a", "f", "ar"}, {"b", "c", "br"}, {"c", "f", "car"}, {"d", "e", "dbr"}, {"e", "", "ecar"}, {"f", "g", "fdbr"}, {"g", "", "gecar"},
	} {
		cover, e := b.x.Cover(named(c.of))
		fine(t, e)
		same(t, "Cover("+c.of+")", cover, names(c.cover))
		same(t, "Up("+c.of+")", slices.Collect(b.x.Up(named(c.of))), names(c.up))
	}
	for _, c := range []struct{ a, b, next, fork string }{
		{"r", "g", "a", "r"}, {"a", "g", "c", "a"}, {"c", "g", "e", "c"}, {"e", "g", "g", "e"}, {"r", "f", "b", "r"}, {"b", "f", "d", "b"}, {"r", "a", "a", "r"},
		{"g", "g", "", "g"}, {"g", "a", "", "a"}, {"f", "g", "", "r"}, {"e", "f", "", "r"}, {"b", "c", "", "r"}, {"r", "r", "", "r"}, {"c", "c", "", "c"}, {"e", "a", "", "a"}, {"d", "f", "f", "d"}, {"b", "d", "d", "b"},
	} {
		told(t, "Fork("+c.a+", "+c.b+")", named(c.fork))(b.x.Fork(named(c.a), named(c.b)))
		got, e := b.x.Next(named(c.a), named(c.b))
		if got != named(c.next) || (e == api.OK) != (c.next != "") || c.next == "" && e != api.ErrNone {
			t.Errorf("Next(%s, %s): %.4x, %v", c.a, c.b, got, e)
		}
	}
}

// Next and Fork of two of which one stands far up on the other one's chain, and of two chains of unlike lengths.
func TestNextAndForkFarOff(t *testing.T) {
	b := begun(numbered(0))
	last := b.chain(t, 0, 300)
	tip := b.chain(t, 100, 20)
	for _, n := range []int{0, 1, 99, 100, 150, 299} {
		told(t, "Next", numbered(n+1))(b.x.Next(numbered(n), numbered(last)))
		told(t, "Fork", numbered(n))(b.x.Fork(numbered(n), numbered(last)))
		told(t, "Fork", numbered(n))(b.x.Fork(numbered(last), numbered(n)))
		told(t, "Fork", numbered(min(n, 100)))(b.x.Fork(numbered(n), numbered(tip)))
	}
	told(t, "Fork", numbered(100))(b.x.Fork(numbered(last), numbered(tip)))
	told(t, "Next", numbered(301))(b.x.Next(numbered(100), numbered(tip)))
	if id, e := b.x.Next(numbered(101), numbered(tip)); e != api.ErrNone || id != (api.Hash{}) {
		t.Errorf("Next: %.4x, %v", id, e)
	}
}

// Next behind one with many others behind it.
func TestNextAmongMany(t *testing.T) {
	b := begun(numbered(0))
	for range 200 {
		b.put(t, 0)
	}
	for n := 1; n <= 200; n++ {
		last := b.chain(t, n, n%3)
		told(t, "Next", numbered(n))(b.x.Next(numbered(0), numbered(last)))
	}
	stands(t, b)
}

func TestGraph(t *testing.T) {
	b := grown(t, "r", "ar", "br", "cab")
	g := b.x.Graph()
	same(t, "All", slices.Collect(g.All()), names("rabc"))
	same(t, "Tips", g.Tips(), names("c"))
	same(t, "Anticone", g.Anticone(named("a")), names("b"))
	b.add(t, named("d"), named("r"), named("r"))
	same(t, "Tips", b.x.Graph().Tips(), names("cd"))
	stands(t, b)
}

// What was answered is the caller's: the index goes on as it was, whatever is done to it.
func TestHandedOut(t *testing.T) {
	b := grown(t, "r", "ar", "br", "cab", "dab", "eab", "fab", "gr")
	first, _ := b.x.Cover(named("b"))
	second, _ := b.x.Cover(named("b"))
	clear(first[:cap(first)])
	_ = append(first, named("x"))
	stands(t, b)
	same(t, "Cover", second, names("cdef"))
	b.add(t, named("h"), named("g"), names("gb")...)
	b.add(t, named("0"), named("g"), names("gb")...)
	stands(t, b)
	same(t, "Cover", second, names("cdef"))
}

// What was handed in is the caller's: neither does the index change it, nor does it change the index.
func TestHandedIn(t *testing.T) {
	b := grown(t, "r", "ar", "br", "cr", "dr")
	all := names("xdcabx")
	parents := all[1:5]
	fine(t, b.x.Add(named("e"), named("a"), parents...))
	same(t, "what was handed in", all, names("xdcabx"))
	clear(all)
	fine(t, b.x.Add(named("f"), named("e"), named("e")))
	other := grown(t, "r", "ar", "br", "cr", "dr", "eabcd", "fe")
	stands(t, &both{b.x, other.m})
	for _, e := range []api.Errno{b.x.Add(named("g"), named("r"), parents...), b.x.Add(named("a"), named("r"), all...)} {
		if e == api.OK {
			t.Error("taken")
		}
	}
	same(t, "what was handed in", all, make([]api.Hash, 6))
}

// What only looks changes nothing.
func TestLooksChangeNothing(t *testing.T) {
	b := someIndex(t, rand.New(rand.NewSource(1)), 150)
	dealt := b.x.Dealt()
	stands(t, b)
	b.x.Copy()
	if stands(t, b); b.x.Dealt() != dealt {
		t.Error("intervals were dealt anew")
	}
}

// A nil index, and a zero one, are refused, whatever else holds, and have nothing.
func TestNone(t *testing.T) {
	var nobody *reach.Index
	zero := new(reach.Index)
	r, a := named("r"), named("a")
	for _, x := range []*reach.Index{nobody, zero, nobody.Copy(), zero.Copy()} {
		for _, e := range []api.Errno{x.Add(a, r, r), x.Add(a, r), x.Add(a, r, r, r), x.Add(a, r, a), x.Add(r, r, r), x.Add(api.Hash{}, api.Hash{})} {
			if e != api.ErrNil {
				t.Errorf("Add: %v", e)
			}
		}
		for _, id := range []api.Hash{{}, r, a} {
			empty(t, x, id, id, api.ErrNil)
			empty(t, x, id, r, api.ErrNil)
		}
		if x.Graph() != nil || x.Dealt() != 0 || x.Copy() != nil {
			t.Errorf("dealt %d times", x.Dealt())
		}
	}
	if (*dag.Graph)(nil) != nobody.Graph() {
		t.Error("a nil index has a graph")
	}
}

// empty asks that nothing is told of a, nor of a and b, but an error.
func empty(t *testing.T, x *reach.Index, a, b api.Hash, want api.Errno) {
	t.Helper()
	for what, call := range map[string]func(api.Hash, api.Hash) (api.Hash, api.Errno){"Next": x.Next, "Fork": x.Fork} {
		for _, l := range [][2]api.Hash{{a, b}, {b, a}} {
			if id, e := call(l[0], l[1]); id != (api.Hash{}) || e != want {
				t.Errorf("%s(%.4x, %.4x): %.4x, %v", what, l[0], l[1], id, e)
			}
		}
	}
	if id, e := x.Selected(a); id != (api.Hash{}) || e != want {
		t.Errorf("Selected(%.4x): %.4x, %v", a, id, e)
	}
	if l, e := x.Cover(a); len(l) > 0 || e != want {
		t.Errorf("Cover(%.4x): %.4x, %v", a, l, e)
	}
	if x.Chain(a, b) || x.Chain(b, a) || x.Before(a, b) || x.Before(b, a) {
		t.Errorf("%.4x, %.4x: one stands on the other's chain, or in its past", a, b)
	}
	for id := range x.Up(a) {
		t.Errorf("Up(%.4x): %.4x", a, id)
	}
}

// Of what is not there nothing is told, neither of it alone nor of it and another one.
func TestStrangers(t *testing.T) {
	for _, n := range []int{1, 2, 5, 40, 120} {
		b := someIndex(t, rand.New(rand.NewSource(int64(n))), n)
		strangers := b.strangers()
		for _, s := range strangers {
			for _, o := range append(strangers, b.m.ids...) {
				empty(t, b.x, s, o, api.ErrNone)
			}
		}
		stands(t, b)
	}
}

// Of several errors the first one as the chapter names them is told. What is refused changes nothing.
func TestRefused(t *testing.T) {
	b := grown(t, "r", "ar", "br", "cab")
	for _, c := range []struct {
		id, selected, parents string
		want                  api.Errno
	}{
		{"c", "a", "a", api.ErrExists}, {"c", "a", "ab", api.ErrExists}, {"r", "r", "r", api.ErrExists}, {"a", "a", "a", api.ErrExists},
		{"c", "a", "", api.ErrExists}, {"c", "a", "aa", api.ErrExists}, {"c", "a", "x", api.ErrExists}, {"c", "r", "a", api.ErrExists}, {"c", "x", "xx", api.ErrExists},
		{"d", "a", "", api.ErrParents}, {"d", "a", "aa", api.ErrParents}, {"d", "b", "aba", api.ErrParents}, {"d", "x", "", api.ErrParents},
		{"d", "x", "xx", api.ErrParents}, {"d", "x", "abxb", api.ErrParents}, {"d", "r", "aa", api.ErrParents}, {"d", "d", "dd", api.ErrParents},
		{"d", "x", "x", api.ErrNone}, {"d", "a", "ax", api.ErrNone}, {"d", "a", "xa", api.ErrNone}, {"d", "d", "d", api.ErrNone}, {"d", "d", "da", api.ErrNone},
		{"d", "a", "x", api.ErrNone}, {"d", "y", "ax", api.ErrNone}, {"d", "r", "axb", api.ErrNone},
		{"d", "b", "a", api.ErrArg}, {"d", "r", "a", api.ErrArg}, {"d", "r", "ab", api.ErrArg}, {"d", "c", "r", api.ErrArg}, {"d", "x", "a", api.ErrArg}, {"d", "d", "abc", api.ErrArg},
	} {
		for range 2 {
			if e := b.x.Add(named(c.id), named(c.selected), names(c.parents)...); e != c.want {
				t.Errorf("Add(%s, %s, %s): %v, want %v", c.id, c.selected, c.parents, e, c.want)
			}
		}
		stands(t, b)
	}
	if e := b.x.Add(named("d"), api.Hash{}, named("a")); e != api.ErrArg {
		t.Errorf("selected noughts: %v", e)
	}
	b.add(t, named("d"), named("b"), names("ab")...)
	b.add(t, named("x"), named("d"), names("dc")...)
	stands(t, b)
}
