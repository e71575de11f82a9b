package ghost_test

import (
	"math/rand"
	"slices"
	"testing"
)

// Blue worlds of a small graph, told by hand.
func TestWorld(t *testing.T) {
	for k, all := range []map[string]string{
		{"r": "", "a": "r", "b": "r", "c": "br", "d": "br", "e": "bdr", "f": "ar", "g": "afr"},
		{"r": "", "a": "r", "b": "r", "c": "abr", "d": "br", "e": "abcr", "f": "ar", "g": "afr"},
		{"r": "", "a": "r", "b": "r", "c": "abr", "d": "br", "e": "abcdr", "f": "ar", "g": "afr"},
	} {
		b := small(t, k)
		for of, want := range all {
			world, e := b.c.World(named(of))
			fine(t, e)
			same(t, "World("+of+")", world, names(want))
			for _, o := range "rabcdefgx" {
				if got := b.c.Blue(named(string(o)), named(of)); got != slices.Contains(names(want), named(string(o))) {
					t.Errorf("K %d: Blue(%c, %s): %t", k, o, of, got)
				}
			}
		}
		stands(t, b)
	}
}

// One and itself; what stands in the past, but is red; in the future; beside; what is merged behind it alone.
func TestBlue(t *testing.T) {
	b := small(t, 1)
	for _, c := range []struct {
		a, b string
		want bool
	}{
		{"r", "r", false}, {"a", "a", false}, {"e", "e", false}, {"r", "e", true}, {"b", "e", true}, {"c", "e", true}, {"a", "e", true}, {"a", "c", true},
		{"d", "e", false}, {"e", "d", false}, {"e", "r", false}, {"c", "a", false}, {"a", "b", false}, {"f", "e", false}, {"b", "g", false}, {"a", "d", false},
	} {
		if got := b.c.Blue(named(c.a), named(c.b)); got != c.want {
			t.Errorf("Blue(%s, %s): %t", c.a, c.b, got)
		}
	}
	b.add(t, named("z"), names("eg")...)
	for _, id := range names("dfg") {
		if b.c.Blue(id, named("z")) {
			t.Errorf("%.4x is blue", id)
		}
	}
	stands(t, b)
}

// The same one is blue in one blue world, and red in another one that has it in its past, too.
func TestBlueHereRedThere(t *testing.T) {
	b := grown(t, 1, "r", "ar", "br", "cab", "da", "ed", "fbe", "gcf")
	if !b.c.Blue(named("a"), named("c")) || b.c.Blue(named("b"), named("f")) || !b.c.Blue(named("b"), named("c")) {
		t.Error("a is blue at c, b is red at f")
	}
	coloured(t, "f", colour("e", 4, "-b"))(b.c.Get(named("f")))
	coloured(t, "c", colour("b", 3, "a"))(b.c.Get(named("c")))
	stands(t, b)
}

// One that many merge, each on a chain of its own, blue by some and red by others.
func TestMergedByMany(t *testing.T) {
	b := begun(t, 3, numbered(0))
	one := b.put(t, 0)
	blue := 0
	for i := range 30 {
		last := b.chain(t, 0, 1+i%6)
		n := b.put(t, last, one)
		b.chain(t, n, 2)
		if b.c.Blue(numbered(one), numbered(n+2)) {
			blue++
		}
	}
	if blue != 15 {
		t.Errorf("blue by %d", blue)
	}
	stands(t, b)
}

func TestIndex(t *testing.T) {
	b := small(t, 2)
	x := b.c.Index()
	told(t, "Selected", named("c"))(x.Selected(named("e")))
	cover, e := x.Cover(named("d"))
	fine(t, e)
	same(t, "Cover", cover, names("e"))
	if !x.Chain(named("b"), named("e")) || x.Chain(named("a"), named("e")) || !x.Before(named("a"), named("e")) {
		t.Error("b stands on e's chain, a beside it")
	}
	same(t, "Tips", x.Graph().Tips(), names("eg"))
	b.add(t, named("z"), names("eg")...)
	same(t, "Tips", b.c.Index().Graph().Tips(), names("z"))
	stands(t, b)
}

// What only looks changes nothing.
func TestLooksChangeNothing(t *testing.T) {
	chance := rand.New(rand.NewSource(1))
	b := someColours(t, chance, 2, 80)
	stands(t, b)
	for range 20 {
		viewed(t, b, b.some(chance, 6)...)
	}
	b.c.Copy()
	dealt := b.c.Index().Dealt()
	stands(t, b)
	if b.c.Index().Dealt() != dealt {
		t.Error("intervals were dealt anew")
	}
}
