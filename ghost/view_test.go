package ghost_test

import (
	"math/rand"
	"slices"
	"testing"

	"plexus/api"
)

// small is r; a, b behind r; c behind a and b; d behind b; e behind c and d; f behind a; g behind f. With K 1 d is red at e.
func small(t *testing.T, k int) *both {
	t.Helper()
	return grown(t, k, "r", "ar", "br", "cab", "db", "ecd", "fa", "gf")
}

func TestSelect(t *testing.T) {
	b := small(t, 2)
	for _, c := range []struct{ parents, want string }{
		{"r", "r"}, {"a", "a"}, {"ab", "b"}, {"ba", "b"}, {"rab", "b"}, {"cd", "c"}, {"dc", "c"}, {"fd", "f"}, {"df", "f"}, {"cg", "g"}, {"gc", "g"},
		{"eg", "e"}, {"abcdefgr", "e"}, {"aa", "a"}, {"abab", "b"}, {"rrrr", "r"}, {"gfgr", "g"},
	} {
		told(t, "Select("+c.parents+")", named(c.want))(b.c.Select(names(c.parents)...))
	}
	stands(t, b)
	b = small(t, 0)
	told(t, "Select(cf)", named("f"))(b.c.Select(names("cf")...))
	told(t, "Select(cd)", named("d"))(b.c.Select(names("cd")...))
	told(t, "Select(eg)", named("g"))(b.c.Select(names("eg")...))
}

// A view is as one that comes, where its selected one is that.
func TestViewIsAsAdd(t *testing.T) {
	for seed := range int64(40) {
		chance := rand.New(rand.NewSource(seed))
		b := someColours(t, chance, someK(chance), 1+chance.Intn(60))
		for range 10 {
			parents := b.some(chance, 5)
			selected, e := b.c.Select(parents...)
			fine(t, e)
			view, e := b.c.View(selected, parents...)
			fine(t, e)
			others := slices.DeleteFunc(slices.Clone(parents), func(id api.Hash) bool { return id == selected })
			coloured(t, "View of the others alone", view)(b.c.View(selected, others...))
			coloured(t, "Add", view)(b.c.Copy().Add(b.newHash(chance), parents...))
		}
	}
}

// The selected one of a view need not be the best one.
func TestViewOfALesserOne(t *testing.T) {
	b := small(t, 1)
	for _, c := range []struct {
		selected, others string
		want             api.Colour
	}{
		{"e", "g", colour("e", 5, "-f-g")}, {"g", "e", colour("g", 4, "-b-d-c-e")}, {"d", "c", colour("d", 4, "-ac")}, {"a", "b", colour("a", 3, "b")},
		{"a", "bf", colour("a", 3, "b-f")}, {"g", "a", colour("g", 4, "")}, {"c", "g", colour("c", 4, "-f-g")}, {"f", "d", colour("f", 3, "-b-d")},
	} {
		coloured(t, "View("+c.selected+", "+c.others+")", c.want)(b.c.View(named(c.selected), names(c.others)...))
	}
	stands(t, b)
}

// A view's selected one may even stand in the past of the others: then it is in nobody's anticone of these.
func TestViewOfOneBehind(t *testing.T) {
	b := small(t, 1)
	for _, c := range []struct {
		selected, others string
		want             api.Colour
	}{
		{"r", "e", colour("r", 5, "ab-dce")}, {"r", "g", colour("r", 4, "afg")}, {"b", "c", colour("b", 4, "ac")}, {"a", "g", colour("a", 4, "fg")},
		{"a", "eg", colour("a", 5, "b-d-fc-ge")}, {"r", "abcdefg", colour("r", 5, "ab-d-fc-ge")},
	} {
		coloured(t, "View("+c.selected+", "+c.others+")", c.want)(b.c.View(named(c.selected), names(c.others)...))
	}
	stands(t, b)
}

// Others that stand in the selected one's past, or are it, count for nothing; nor does it matter how often one is told, or in
// which order. There may be none.
func TestViewOfOthersThatCountForNothing(t *testing.T) {
	for k := range 4 {
		b := small(t, k)
		for _, selected := range names("rabcdefg") {
			want, _ := b.m.view(b.m.place(selected))
			past := b.c.Index().Graph().Past(selected)
			coloured(t, "no others", want)(b.c.View(selected))
			coloured(t, "itself", want)(b.c.View(selected, selected))
			coloured(t, "its past", want)(b.c.View(selected, past...))
			coloured(t, "its past, itself", want)(b.c.View(selected, append(past, selected, selected)...))
			if len(want.Merge) > 0 {
				t.Errorf("merge set: %.4x", want.Merge)
			}
			for _, o := range names("rabcdefg") {
				want, _ := b.m.view(b.m.place(selected), b.m.place(o))
				coloured(t, "one", want)(b.c.View(selected, o))
				coloured(t, "one twice, and all that count for nothing", want)(b.c.View(selected, append(append([]api.Hash{o, selected}, past...), o)...))
			}
		}
		stands(t, b)
	}
}

// Of the root alone there is a view, too.
func TestViewOfTheRoot(t *testing.T) {
	b := begun(t, 0, named("r"))
	coloured(t, "View", colour("r", 1, ""))(b.c.View(named("r")))
	coloured(t, "View", colour("r", 1, ""))(b.c.View(named("r"), named("r"), named("r")))
	told(t, "Select", named("r"))(b.c.Select(named("r")))
	stands(t, b)
}

// A view from far off has many thousands in its merge set: of a chain, all blue; of as many in rows, of which each has some in
// its anticone, so many of each row as may be.
func TestViewFromFarOff(t *testing.T) {
	b := begun(t, 2, numbered(0))
	const n = 4000
	for i := range n {
		_, e := b.c.Add(numbered(i+1), numbered(i))
		fine(t, e)
	}
	c, e := b.c.View(numbered(0), numbered(n))
	fine(t, e)
	if c.Score != n+1 || len(c.Merge) != n || c.Merge[n-1] != numbered(n) || slices.Contains(c.Blues, false) {
		t.Errorf("%d, a merge set of %d", c.Score, len(c.Merge))
	}
	b = begun(t, 2, numbered(0))
	last := []api.Hash{numbered(0)}
	for i := range n / 4 {
		var row []api.Hash
		for j := range 4 {
			row = append(row, numbered(4*i+j+1))
			_, e := b.c.Add(row[j], last...)
			fine(t, e)
		}
		last = row
	}
	c, e = b.c.View(numbered(0), last...)
	fine(t, e)
	if c.Score != 1+3*n/4 || len(c.Merge) != n {
		t.Errorf("%d, a merge set of %d", c.Score, len(c.Merge))
	}
	for i, is := range c.Blues {
		if c.Merge[i] != numbered(i+1) || is != (i%4 < 3) {
			t.Fatalf("%d: %.8x, %t", i, c.Merge[i], is)
		}
	}
}

func TestBest(t *testing.T) {
	b := small(t, 2)
	for _, c := range []struct{ a, b, want string }{
		{"a", "b", "b"}, {"c", "d", "c"}, {"f", "d", "f"}, {"c", "g", "g"}, {"e", "g", "e"}, {"r", "a", "a"}, {"a", "e", "e"}, {"r", "g", "g"}, {"c", "f", "c"},
		{"a", "a", "a"}, {"r", "r", "r"}, {"e", "e", "e"},
		{"x", "a", "a"}, {"x", "r", "r"}, {"z", "e", "e"}, {"0", "g", "g"}, {"", "a", "a"}, {"", "r", "r"},
		{"x", "x", ""}, {"x", "y", ""}, {"0", "z", ""}, {"", "", ""}, {"", "x", ""},
	} {
		for _, l := range [][2]string{{c.a, c.b}, {c.b, c.a}} {
			if got := b.c.Best(named(l[0]), named(l[1])); got != named(c.want) {
				t.Errorf("Best(%s, %s): %.4x, want %s", l[0], l[1], got, c.want)
			}
		}
	}
	zero := begun(t, 0, api.Hash{})
	if zero.c.Best(api.Hash{}, named("x")) != (api.Hash{}) || zero.c.Best(named("x"), api.Hash{}) != (api.Hash{}) {
		t.Error("noughts are there, and x is not")
	}
	stands(t, b)
}
