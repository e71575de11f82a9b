package ghost_test

import (
	"math/rand"
	"testing"

	"plexus/api"
	"plexus/ghost"
	"plexus/reach"
)

// refusedColour asks that a call answers an error, and nothing beside it.
func refusedColour(t *testing.T, what string, want api.Errno) func(api.Colour, api.Errno) {
	return func(got api.Colour, e api.Errno) {
		t.Helper()
		if e != want || !isSame(got, api.Colour{}) {
			t.Errorf("%s: %v, %v, want %v", what, got, e, want)
		}
	}
}

// refusedHash likewise.
func refusedHash(t *testing.T, what string, want api.Errno) func(api.Hash, api.Errno) {
	return func(got api.Hash, e api.Errno) {
		t.Helper()
		if e != want || got != (api.Hash{}) {
			t.Errorf("%s: %.4x, %v, want %v", what, got, e, want)
		}
	}
}

// A nil colouring, and a zero one, are refused, whatever else holds, and have nothing.
func TestNone(t *testing.T) {
	var nobody *ghost.Colours
	zero := new(ghost.Colours)
	r, a := named("r"), named("a")
	for _, c := range []*ghost.Colours{nobody, zero, nobody.Copy(), zero.Copy()} {
		for _, l := range [][]api.Hash{nil, {}, {r}, {r, r}, {a}, {r, a}, {{}}, {{}, {}}} {
			for _, id := range []api.Hash{{}, r, a} {
				refusedColour(t, "Add", api.ErrNil)(c.Add(id, l...))
				refusedColour(t, "View", api.ErrNil)(c.View(id, l...))
			}
			refusedHash(t, "Select", api.ErrNil)(c.Select(l...))
		}
		for _, id := range []api.Hash{{}, r, a} {
			refusedColour(t, "Get", api.ErrNil)(c.Get(id))
			if world, e := c.World(id); len(world) > 0 || e != api.ErrNil {
				t.Errorf("World: %.4x, %v", world, e)
			}
			for _, o := range []api.Hash{{}, r, a} {
				if c.Blue(id, o) || c.Best(id, o) != (api.Hash{}) {
					t.Errorf("%.4x, %.4x: one is blue, or the better one", id, o)
				}
			}
		}
		if c.Index() != (*reach.Index)(nil) || c.K() != 0 || c.Copy() != nil {
			t.Errorf("K: %d", c.K())
		}
	}
}

// Of what is not there nothing is told, neither of it alone nor of it and another one.
func TestStrangers(t *testing.T) {
	for _, n := range []int{1, 2, 5, 40} {
		b := someColours(t, rand.New(rand.NewSource(int64(n))), n%4, n)
		strangers := b.strangers()
		for _, s := range strangers {
			refusedColour(t, "Get", api.ErrNone)(b.c.Get(s))
			refusedColour(t, "View", api.ErrNone)(b.c.View(s))
			refusedHash(t, "Select", api.ErrNone)(b.c.Select(s))
			if world, e := b.c.World(s); len(world) > 0 || e != api.ErrNone {
				t.Errorf("World(%.4x): %.4x, %v", s, world, e)
			}
			for _, o := range append(strangers, b.m.ids...) {
				refusedColour(t, "View", api.ErrNone)(b.c.View(s, o))
				refusedColour(t, "View", api.ErrNone)(b.c.View(o, s))
				refusedColour(t, "View", api.ErrNone)(b.c.View(o, o, b.m.ids[0], s))
				refusedHash(t, "Select", api.ErrNone)(b.c.Select(s, o))
				refusedHash(t, "Select", api.ErrNone)(b.c.Select(o, s))
				refusedHash(t, "Select", api.ErrNone)(b.c.Select(o, o, s, b.m.ids[0]))
				if b.c.Blue(s, o) || b.c.Blue(o, s) {
					t.Errorf("%.4x, %.4x: one is blue", s, o)
				}
				if want := o; b.m.place(o) >= 0 && (b.c.Best(s, o) != want || b.c.Best(o, s) != want) {
					t.Errorf("Best(%.4x, %.4x): %.4x, %.4x", s, o, b.c.Best(s, o), b.c.Best(o, s))
				}
			}
		}
		stands(t, b)
	}
}

// Of several errors the first one as the chapter names them is told. What is refused changes nothing.
func TestRefused(t *testing.T) {
	b := grown(t, 1, "r", "ar", "br", "cab")
	for _, c := range []struct {
		id, parents string
		want        api.Errno
	}{
		{"c", "a", api.ErrExists}, {"c", "ab", api.ErrExists}, {"r", "r", api.ErrExists}, {"a", "a", api.ErrExists}, {"r", "", api.ErrExists},
		{"c", "", api.ErrExists}, {"c", "aa", api.ErrExists}, {"c", "x", api.ErrExists}, {"c", "xx", api.ErrExists}, {"b", "rxx", api.ErrExists},
		{"d", "", api.ErrParents}, {"d", "aa", api.ErrParents}, {"d", "aba", api.ErrParents}, {"d", "xx", api.ErrParents}, {"d", "abxb", api.ErrParents},
		{"d", "dd", api.ErrParents}, {"d", "xabx", api.ErrParents}, {"d", "aax", api.ErrParents},
		{"d", "x", api.ErrNone}, {"d", "ax", api.ErrNone}, {"d", "xa", api.ErrNone}, {"d", "axb", api.ErrNone}, {"d", "xyz", api.ErrNone}, {"d", "d", api.ErrNone}, {"d", "da", api.ErrNone}, {"d", "zr", api.ErrNone},
	} {
		for range 2 {
			refusedColour(t, "Add("+c.id+", "+c.parents+")", c.want)(b.c.Add(named(c.id), names(c.parents)...))
		}
		stands(t, b)
	}
	refusedHash(t, "Select of none", api.ErrParents)(b.c.Select())
	refusedHash(t, "Select of none", api.ErrParents)(b.c.Select([]api.Hash{}...))
	refusedColour(t, "Add", api.ErrNone)(b.c.Add(named("d"), api.Hash{}))
	refusedColour(t, "Add", api.ErrNone)(b.c.Add(api.Hash{}, api.Hash{}))
	refusedColour(t, "Add", api.ErrParents)(b.c.Add(api.Hash{}))
	stands(t, b)
	b.add(t, named("d"), names("ab")...)
	b.add(t, named("x"), names("dc")...)
	stands(t, b)
}
