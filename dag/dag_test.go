package dag_test

import (
	"math/rand"
	"slices"
	"testing"

	"plexus/api"
	"plexus/dag"
)

func TestExample(t *testing.T) {
	b := grown(t, "r", "ar", "br", "cab")
	same(t, "Anticone(a)", b.g.Anticone(named("a")), names("b"))
	stands(t, b)
}

// A root may be any hash; it has no parents, and is a tip as long as it is alone.
func TestNew(t *testing.T) {
	for _, root := range []api.Hash{{}, named("r"), {31: 1}, {0: 255, 31: 255}} {
		b := begun(root)
		stands(t, b)
		if b.g.Len() != 1 || b.g.Root() != root || !b.g.Has(root) {
			t.Errorf("%d, %x", b.g.Len(), b.g.Root())
		}
		same(t, "Tips", b.g.Tips(), []api.Hash{root})
		asked(t, "Parents", b.g.Parents, root, nil)
		asked(t, "Children", b.g.Children, root, nil)
		if b.g.Before(root, root) || len(b.g.Past(root))+len(b.g.Future(root))+len(b.g.Anticone(root)) > 0 {
			t.Error("the root has others around it")
		}
	}
}

// Each one that comes is there, the last one in the order of All, wherever its hash stands among the others.
func TestAdd(t *testing.T) {
	b := grown(t, "m")
	for _, line := range []string{"zm", "am", "nza", "bn", "yn", "cbyz", "0c", "1m", "xabc"} {
		id := names(line)[0]
		if b.g.Has(id) {
			t.Fatalf("%q is there ahead of coming", line)
		}
		b.add(t, id, names(line)[1:]...)
		stands(t, b)
	}
	if root := b.g.Root(); root != named("m") {
		t.Errorf("%x", root)
	}
	same(t, "All", slices.Collect(b.g.All()), names("mzanbyc01x"))
}

// What stands in another one's past may be a parent beside it: layer 10 does not ask that.
func TestAddBehindOneAndItsPast(t *testing.T) {
	stands(t, grown(t, "r", "ar", "bar", "crba", "dac"))
}

// Parents may be handed in in any order.
func TestParentsInAnyOrder(t *testing.T) {
	for _, line := range []string{"zabc", "zacb", "zbac", "zbca", "zcab", "zcba"} {
		b := grown(t, "r", "br", "cr", "ab", line)
		stands(t, b)
		asked(t, line, b.g.Parents, named("z"), names("abc"))
	}
}

func TestHas(t *testing.T) {
	b := grown(t, "r", "ar", "br")
	near := named("a")
	near[31]++
	for _, id := range []api.Hash{{}, named("c"), named("ra"), near} {
		if b.g.Has(id) {
			t.Errorf("%x is there", id)
		}
	}
}

// chain is a graph of n hashes, each behind the one ahead of it.
func chain(t *testing.T, n int) *both {
	t.Helper()
	b := begun(numbered(0))
	for i := 1; i < n; i++ {
		b.add(t, numbered(i), numbered(i-1))
	}
	return b
}

// wide is a graph of a root and n hashes behind it alone.
func wide(t *testing.T, n int) *both {
	t.Helper()
	b := begun(numbered(0))
	for i := range n {
		b.add(t, numbered(i+1), numbered(0))
	}
	return b
}

func TestChainAndWideGraph(t *testing.T) {
	for _, n := range []int{1, 2, 3, 63, 64, 65, 66, 127, 128, 129, 130, 200} {
		stands(t, chain(t, n))
		b := wide(t, n)
		stands(t, b)
		b.add(t, numbered(500), b.m.ids[1:]...)
		stands(t, b)
		b.add(t, numbered(501), numbered(0), numbered(n))
		stands(t, b)
	}
}

func TestAllLeftEarly(t *testing.T) {
	b := grown(t, "r", "br", "ab", "ca")
	every := b.g.All()
	for leave := range 5 {
		var got []api.Hash
		for id := range every {
			got = append(got, id)
			if len(got) > leave {
				break
			}
		}
		same(t, "All", got, names("rbac")[:min(leave+1, 4)])
	}
	stands(t, b)
}

func TestAllTwiceAndWithinItself(t *testing.T) {
	every := grown(t, "r", "br", "ab").g.All()
	for range 2 {
		var got []api.Hash
		for one := range every {
			for other := range every {
				got = append(got, one, other)
			}
		}
		same(t, "All", got, names("rrrbrabrbbbaarabaa"))
	}
}

// All goes over those that are there when it is called, whoever comes meanwhile, ahead of going over them, or behind it.
func TestAllWhileOthersCome(t *testing.T) {
	b := grown(t, "r", "br")
	every := b.g.All()
	b.add(t, named("a"), named("b"))
	next := byte('c')
	for range 2 {
		var got []api.Hash
		for id := range every {
			got = append(got, id)
			b.add(t, named(string(next)), id, named("a"))
			next++
		}
		same(t, "All", got, names("rb"))
	}
	same(t, "All", slices.Collect(b.g.All()), names("rbacdef"))
	stands(t, b)
}

// Of each length of a graph All stays as it was when it was called, to the end.
func TestAllOfEachLength(t *testing.T) {
	b := begun(numbered(0))
	calls := []func(func(api.Hash) bool){b.g.All()}
	for i := range 70 {
		b.add(t, numbered(i+1), numbered(i/2))
		calls = append(calls, b.g.All())
	}
	for i, every := range calls {
		same(t, "All", slices.Collect(every), b.m.ids[:i+1])
	}
}

// refusals are calls of Add, of the graph of a root r, a and b behind it, and c behind both, and why they are refused;
// where several errors hold, the one that the chapter names first.
var refusals = []struct {
	what    string
	id      string
	parents string
	e       api.Errno
}{
	{"the root, behind nothing", "r", "", api.ErrExists},
	{"the root, behind one", "r", "a", api.ErrExists},
	{"the root, behind itself", "r", "r", api.ErrExists},
	{"what is there, just as it came", "c", "ab", api.ErrExists},
	{"what is there, behind another one", "a", "b", api.ErrExists},
	{"what is there, behind nothing", "b", "", api.ErrExists},
	{"what is there, behind itself", "c", "c", api.ErrExists},
	{"what is there, behind two the same", "a", "rr", api.ErrExists},
	{"what is there, behind what is not", "a", "x", api.ErrExists},
	{"what is there, behind two the same that are not", "a", "xx", api.ErrExists},
	{"behind nothing", "d", "", api.ErrParents},
	{"behind two the same", "d", "aa", api.ErrParents},
	{"behind two the same, apart", "d", "abra", api.ErrParents},
	{"behind two the same, the last ones", "d", "rbcac", api.ErrParents},
	{"behind the root twice", "d", "rr", api.ErrParents},
	{"behind two the same that are not there", "d", "xx", api.ErrParents},
	{"behind two the same, and what is not there", "d", "xbb", api.ErrParents},
	{"behind itself twice", "d", "dd", api.ErrParents},
	{"behind what is not there", "d", "x", api.ErrNone},
	{"behind what is not there, the last one", "d", "abcx", api.ErrNone},
	{"behind what is not there, the first one", "d", "xabc", api.ErrNone},
	{"behind what is not there, within", "d", "axb", api.ErrNone},
	{"behind several that are not there", "d", "xyz", api.ErrNone},
	{"behind itself", "d", "d", api.ErrNone},
	{"behind itself, and one", "d", "ad", api.ErrNone},
	{"behind one, and itself", "d", "da", api.ErrNone},
}

// What is refused changes nothing: all answers stay, and what was refused may come still.
func TestRefused(t *testing.T) {
	b := grown(t, "r", "ar", "br", "cab")
	for _, c := range refusals {
		if e := b.g.Add(named(c.id), names(c.parents)...); e != c.e {
			t.Errorf("%s: %v, want %v", c.what, e, c.e)
		}
		stands(t, b)
		if b.g.Has(named("d")) || b.g.Has(named("x")) {
			t.Errorf("%s: it is there", c.what)
		}
	}
	b.add(t, named("d"), names("rcb")...)
	stands(t, b)
}

// What is refused once, for a parent that is not there, may come once that is.
func TestRefusedThenTaken(t *testing.T) {
	b := grown(t, "r")
	if e := b.g.Add(named("b"), named("a")); e != api.ErrNone {
		t.Errorf("%v", e)
	}
	b.add(t, named("a"), named("r"))
	b.add(t, named("b"), named("a"))
	stands(t, b)
}

// What was handed in stays the caller's: it is not changed, and the graph does not keep it.
func TestHandedIn(t *testing.T) {
	b := grown(t, "r", "cr", "ar", "br")
	parents := names("cab")
	b.add(t, named("d"), parents...)
	same(t, "the parents that were handed in", parents, names("cab"))
	clear(parents)
	stands(t, b)

	ids := names("dxcd")
	got := b.g.Past(ids...)
	same(t, "what was asked of", ids, names("dxcd"))
	clear(ids)
	same(t, "Past", got, names("abcr"))

	for _, l := range [][]api.Hash{names("dd"), names("dx"), names("ba")} {
		kept := slices.Clone(l)
		b.g.Add(named("d"), l...)
		b.g.Add(named("e"), append(slices.Clone(l), named("y"))...)
		same(t, "the parents of what was refused", l, kept)
	}
}

// What was answered is the caller's: the graph goes on as it was, whatever is done to it.
func TestHandedOut(t *testing.T) {
	b := grown(t, "r", "ar", "br", "cab", "da", "ecd")
	answers := func() [][]api.Hash {
		parents, e := b.g.Parents(named("c"))
		children, o := b.g.Children(named("a"))
		fine(t, e, o)
		return [][]api.Hash{parents, children, b.g.Tips(), b.g.Past(named("c")), b.g.Future(named("a")), b.g.Anticone(named("b")), slices.Collect(b.g.All())}
	}
	for range 2 {
		for i, l := range answers() {
			if len(l) == 0 {
				t.Fatalf("%d: nothing", i)
			}
			clear(l[:cap(l)])
			stands(t, b)
		}
	}
	early := answers()
	b.add(t, named("f"), names("bd")...)
	for i, want := range []string{"ab", "cd", "e", "abr", "cde", "ad", "rabcde"} {
		same(t, want, early[i], names(want))
	}
}

// A nil graph, and a zero one, are refused, and have nothing.
func TestNone(t *testing.T) {
	var none *dag.Graph
	zero := new(dag.Graph)
	for i, g := range []*dag.Graph{none, zero, none.Copy(), zero.Copy()} {
		for _, c := range refusals {
			if e := g.Add(named(c.id), names(c.parents)...); e != api.ErrNil {
				t.Errorf("%d: Add, %s: %v", i, c.what, e)
			}
		}
		for _, id := range names("rad\x00") {
			parents, e := g.Parents(id)
			children, o := g.Children(id)
			if parents != nil || children != nil || e != api.ErrNil || o != api.ErrNil {
				t.Errorf("%d: %v, %v", i, e, o)
			}
			if g.Has(id) || g.Before(id, id) || len(g.Past(id))+len(g.Past(id, id))+len(g.Future(id))+len(g.Anticone(id)) > 0 {
				t.Errorf("%d: it has %x", i, id)
			}
		}
		for range g.All() {
			t.Errorf("%d: All goes over something", i)
		}
		if g.Len() != 0 || g.Root() != (api.Hash{}) || len(g.Tips())+len(g.Past()) > 0 {
			t.Errorf("%d: it has something", i)
		}
		if g.Copy() != nil {
			t.Errorf("%d: its copy is not nil", i)
		}
	}
}

// Of many rows of calls, taken and refused, each graph is what it should be.
func TestManyRowsOfCalls(t *testing.T) {
	for seed := range int64(300) {
		chance := rand.New(rand.NewSource(seed))
		b := begun(anyHash(chance))
		for range 20 {
			id := b.grow(t, chance)
			some := b.m.ids[chance.Intn(len(b.m.ids))]
			other := anyHash(chance)
			for b.m.has(other) {
				other = anyHash(chance)
			}
			for i, got := range []api.Errno{b.g.Add(some, id), b.g.Add(some), b.g.Add(other), b.g.Add(other, some, some), b.g.Add(other, other), b.g.Add(other, some, other)} {
				if want := []api.Errno{api.ErrExists, api.ErrExists, api.ErrParents, api.ErrParents, api.ErrNone, api.ErrNone}[i]; got != want {
					t.Fatalf("%d: %v, want %v", seed, got, want)
				}
			}
			if b.g.Has(other) {
				t.Fatalf("%d: %x is there", seed, other)
			}
		}
		stands(t, b)
	}
}
