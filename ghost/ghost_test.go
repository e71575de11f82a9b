package ghost_test

import (
	"math"
	"testing"

	"plexus/api"
	"plexus/ghost"
)

// The chapter's example; a's hash is the greater one, so its name is y here, and b's x.
func TestExample(t *testing.T) {
	b := grown(t, 0, "r", "yr", "xr", "cyx")
	coloured(t, "c", colour("y", 2, "-x"))(b.c.Get(named("c")))
	stands(t, b)
	b = grown(t, 1, "r", "yr", "xr", "cyx")
	coloured(t, "c", colour("y", 3, "x"))(b.c.Get(named("c")))
	stands(t, b)
}

// A root may be any hash. All of its colour is noughts, and its blue world is empty.
func TestNew(t *testing.T) {
	for _, root := range []api.Hash{{}, named("r"), {31: 1}, {0: 255, 31: 255}} {
		for _, k := range []int{0, 1, 18, api.MaxK - 1, api.MaxK} {
			b := begun(t, k, root)
			stands(t, b)
			coloured(t, "Get", api.Colour{})(b.c.Get(root))
			world, e := b.c.World(root)
			if len(world) > 0 || e != api.OK || b.c.Blue(root, root) || b.c.K() != k {
				t.Errorf("World: %.4x, %v; K: %d", world, e, b.c.K())
			}
			viewed(t, b, root)
			b.add(t, named("x"), root)
			coloured(t, "x", api.Colour{Selected: root, Score: 1})(b.c.Get(named("x")))
			stands(t, b)
		}
	}
	first, second := begun(t, 1, named("r")), begun(t, 1, named("r"))
	first.add(t, named("a"), named("r"))
	stands(t, first)
	stands(t, second)
}

func TestNewRefused(t *testing.T) {
	for _, k := range []int{-1, -2, -api.MaxK, api.MaxK + 1, api.MaxK + 2, 1 << 32, math.MaxInt, math.MinInt} {
		if c, e := ghost.New(k, named("r")); c != nil || e != api.ErrArg {
			t.Errorf("New(%d): %v, %v", k, c, e)
		}
	}
}

// Behind one parent the merge set is empty.
func TestOneParent(t *testing.T) {
	for _, k := range []int{0, 1, api.MaxK} {
		b := begun(t, k, numbered(0))
		last := b.chain(t, 0, 90)
		coloured(t, "the last one", api.Colour{Selected: numbered(last - 1), Score: 90})(b.c.Get(numbered(last)))
		aside := b.chain(t, 40, 20)
		coloured(t, "the last one aside", api.Colour{Selected: numbered(aside - 1), Score: 60})(b.c.Get(numbered(aside)))
		stands(t, b)
	}
}

// Of parents of equal scores the one of the greatest hash is selected, wherever it stands among them, whichever came first.
func TestEqualScores(t *testing.T) {
	for _, line := range []string{"abc", "acb", "bac", "bca", "cab", "cba"} {
		b := grown(t, 2, "r", line[:1]+"r", line[1:2]+"r", line[2:]+"r")
		for i, parents := range []string{"abc", "acb", "bac", "bca", "cab", "cba"} {
			b.add(t, numbered(i), names(parents)...)
			coloured(t, parents, colour("c", 4, "ab"))(b.c.Get(numbered(i)))
		}
		stands(t, b)
	}
	b := begun(t, 1, named("r"))
	low, high := api.Hash{31: 1}, api.Hash{31: 2}
	b.add(t, high, named("r"))
	b.add(t, low, named("r"))
	b.add(t, named("x"), low, high)
	told(t, "Selected", high)(b.c.Index().Selected(named("x")))
	stands(t, b)
}

// The greater score counts ahead of the greater hash, and blue ones alone count for a score: a long chain of a few may have a
// lesser one than a short chain that merged many.
func TestGreatestScore(t *testing.T) {
	b := grown(t, 3, "r", "zr", "ar", "ba", "xzb")
	coloured(t, "x", colour("b", 4, "z"))(b.c.Get(named("x")))
	b = grown(t, 3, "r", "ar", "br", "cr", "dabc", "zr", "yz", "xy", "wdx")
	coloured(t, "d", colour("c", 4, "ab"))(b.c.Get(named("d")))
	coloured(t, "x", colour("y", 3, ""))(b.c.Get(named("x")))
	coloured(t, "w", colour("d", 5, "-z-y-x"))(b.c.Get(named("w")))
	b = grown(t, 0, "r", "ar", "br", "cr", "dabc", "zr", "yz", "xy", "wdx")
	coloured(t, "d", colour("c", 2, "-a-b"))(b.c.Get(named("d")))
	coloured(t, "w", colour("x", 4, "-a-b-c-d"))(b.c.Get(named("w")))
	stands(t, b)
}

// A merge set stands by rising scores, of equal ones by rising hashes, whatever the order in which it came.
func TestMergeOrder(t *testing.T) {
	b := grown(t, 10, "r", "mr", "9r", "5m", "z9", "1r", "75z", "a1", "0a", "87", "x80")
	coloured(t, "x", colour("8", 10, "1a0"))(b.c.Get(named("x")))
	coloured(t, "7", colour("z", 5, "m5"))(b.c.Get(named("7")))
	stands(t, b)
	b.add(t, named("c"), names("ba57"[1:])...)
	coloured(t, "c", colour("7", 8, "1a"))(b.c.Get(named("c")))
	stands(t, b)
	b = grown(t, 10, "r", "br", "ar", "db", "ca", "fd", "ec", "zr", "yz", "wy", "vw", "xvfe")
	coloured(t, "x", colour("v", 11, "abcdef"))(b.c.Get(named("x")))
}

// One beside a chain is blue just if no more of it than K stand in its anticone.
func TestRedByHowMany(t *testing.T) {
	for _, k := range []int{0, 1, 2, 5, 99, api.MaxK} {
		for n := max(1, k-2); n < k+4; n++ {
			b := begun(t, k, numbered(0))
			last := b.chain(t, 0, n+2)
			aside := api.Hash{31: 1}
			b.add(t, aside, numbered(2))
			b.add(t, named("x"), numbered(last), aside)
			want := api.Colour{Selected: numbered(last), Score: uint64(n + 3), Merge: []api.Hash{aside}, Blues: []bool{n <= k}}
			if n <= k {
				want.Score++
			}
			coloured(t, "the one behind", want)(b.c.Get(named("x")))
			if b.c.Blue(aside, named("x")) != (n <= k) {
				t.Errorf("K %d, %d in the anticone", k, n)
			}
		}
	}
}

// Of many beside each other K come to the selected one, those of the least hashes; then all are full.
func TestManyBeside(t *testing.T) {
	for _, k := range []int{0, 1, 2, 18, 99, api.MaxK} {
		b := begun(t, k, numbered(0))
		var tips []int
		for range k + 4 {
			tips = append(tips, b.put(t, 0))
		}
		c, e := b.c.Get(numbered(b.put(t, tips...)))
		fine(t, e)
		if c.Selected != numbered(k+4) || c.Score != uint64(k+2) {
			t.Errorf("K %d: %.8x, %d", k, c.Selected, c.Score)
		}
		same(t, "Merge", c.Merge, b.m.hashes(tips[:k+3]))
		for i, is := range c.Blues {
			if is != (i < k) {
				t.Errorf("K %d: %d: %t", k, i, is)
			}
		}
		viewed(t, b, b.m.ids[1:6]...)
		stands(t, b)
	}
}

// One that has no more than K in its anticone is red where one of these has K in its own already: d stands beside c and e, and
// c beside a and b.
func TestRedByOneThatIsFull(t *testing.T) {
	for k, want := range map[int]api.Colour{1: colour("e", 4, "-d"), 2: colour("e", 5, "-d"), 3: colour("e", 6, "d"), api.MaxK: colour("e", 6, "d")} {
		b := grown(t, k, "r", "ar", "br", "cr", "eabc", "dab", "fed")
		coloured(t, "f", want)(b.c.Get(named("f")))
		same(t, "Anticone", b.c.Index().Graph().Anticone(named("d")), names("ce"))
		stands(t, b)
	}
}

// What came into a blue world at one merge set fills others for the next one's; a red one fills nobody.
func TestFullLater(t *testing.T) {
	b := grown(t, 2, "r", "ar", "br", "cab", "da", "ecd", "gd", "fr", "heg", "ihf")
	coloured(t, "c", colour("b", 3, "a"))(b.c.Get(named("c")))
	coloured(t, "e", colour("c", 5, "d"))(b.c.Get(named("e")))
	coloured(t, "h", colour("e", 6, "-g"))(b.c.Get(named("h")))
	coloured(t, "i", colour("h", 7, "-f"))(b.c.Get(named("i")))
	stands(t, b)
	b = grown(t, 3, "r", "ar", "br", "cab", "da", "ecd", "gd", "heg", "jg", "ihj")
	coloured(t, "h", colour("e", 7, "g"))(b.c.Get(named("h")))
	coloured(t, "i", colour("h", 8, "-j"))(b.c.Get(named("i")))
	stands(t, b)
}

// Of one merge set some are blue, some red, in any turn. With K 2: d has a, b and z beside it; e has b and z, and is full then,
// and stands beside f. With K 4: e fills d, which stands beside f and g; y has a, b, z, e and h beside it, 3 has h alone.
func TestBlueAndRed(t *testing.T) {
	b := grown(t, 2, "r", "ar", "ba", "zb", "dr", "ea", "fb", "hzdef")
	coloured(t, "h", colour("z", 5, "-de-f"))(b.c.Get(named("h")))
	stands(t, b)
	b = grown(t, 4, "r", "ar", "ba", "zb", "dr", "ea", "fb", "hzdef", "yd", "gf", "3zde", "ihgy3")
	coloured(t, "h", colour("z", 6, "de-f"))(b.c.Get(named("h")))
	coloured(t, "3", colour("z", 6, "de"))(b.c.Get(named("3")))
	coloured(t, "i", colour("h", 8, "-y-g3"))(b.c.Get(named("i")))
	stands(t, b)
	b = grown(t, 2, "r", "ar", "ba", "zb", "cz", "dr", "er", "fd", "hcdef")
	coloured(t, "h", colour("c", 5, "-d-e-f"))(b.c.Get(named("h")))
	stands(t, b)
}

// Each one that comes is there, wherever its hash stands among the others.
func TestAdd(t *testing.T) {
	for k := range 4 {
		b := grown(t, k, "m")
		for _, line := range []string{"zm", "am", "nza", "bn", "yn", "cbyz", "0c", "1m", "x1abc", "wx0", "d1x"} {
			l := names(line)
			if _, e := b.c.Get(l[0]); e != api.ErrNone {
				t.Fatalf("%q is there ahead of coming", line)
			}
			b.add(t, l[0], l[1:]...)
			stands(t, b)
		}
	}
}

// One's parents may stand in each other's past.
func TestBehindOneAndItsPast(t *testing.T) {
	for k := range 3 {
		b := grown(t, k, "r", "ar", "bar", "crba", "dac", "eabcdr", "fra", "gfe")
		stands(t, b)
		coloured(t, "e", colour("d", 5, ""))(b.c.Get(named("e")))
		coloured(t, "f", colour("a", 2, ""))(b.c.Get(named("f")))
	}
}

// Two chains beside each other, the one of which, much later, merges all of the other one.
func TestLateMerge(t *testing.T) {
	for _, k := range []int{0, 1, 7, 20, 21, 60} {
		b := begun(t, k, numbered(0))
		first, second := b.chain(t, 0, 30), b.chain(t, 0, 20)
		n := b.put(t, second, first)
		b.put(t, first, second)
		side := b.put(t, second)
		b.put(t, n, side)
		stands(t, b)
	}
}

// Many chains beside each other, of which now and then one merges all.
func TestManyChains(t *testing.T) {
	for _, k := range []int{0, 3, 12, 30, api.MaxK} {
		b := begun(t, k, numbered(0))
		tips := []int{0, 0, 0, 0}
		for i := range 100 {
			at := i % 4
			if i%23 == 22 {
				tips[at] = b.put(t, tips...)
			} else {
				tips[at] = b.put(t, tips[at])
			}
			if i == 3 {
				b.put(t, tips...)
			}
		}
		stands(t, b)
		viewed(t, b, b.m.hashes(tips)...)
	}
}
