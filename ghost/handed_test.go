package ghost_test

import (
	"math/rand"
	"slices"
	"testing"

	"plexus/api"
)

// spoilt are colours whose lists were written over, and put behind.
func spoilt(l ...api.Colour) {
	for _, c := range l {
		clear(c.Merge[:cap(c.Merge)])
		_ = append(c.Merge, named("x"))
		for i := range c.Blues {
			c.Blues[i] = !c.Blues[i]
		}
		_ = append(c.Blues[:0], true, true, true)
	}
}

// What was answered is the caller's: the colouring goes on as it was, whatever is done to it, and so does what was answered
// elsewhere.
func TestHandedOut(t *testing.T) {
	b := grown(t, 1, "r", "ar", "br", "cr", "dr", "er", "fabcd")
	parents := names("def")
	added, e := b.c.Add(named("g"), parents...)
	fine(t, e)
	b.m.add(named("g"), b.m.places(parents))
	got, e := b.c.Get(named("g"))
	fine(t, e)
	again, e := b.c.Get(named("g"))
	fine(t, e)
	view, e := b.c.View(named("e"), names("cdb")...)
	fine(t, e)
	same(t, "Merge", got.Merge, names("e"))
	spoilt(added, got, view)
	stands(t, b)
	sameColour(t, "Get", again, b.m.colours[len(b.m.ids)-1])
	coloured(t, "View", colour("e", 3, "b-c-d"))(b.c.View(named("e"), names("cdb")...))

	first, e := b.c.World(named("g"))
	fine(t, e)
	second, e := b.c.World(named("g"))
	fine(t, e)
	clear(first[:cap(first)])
	same(t, "World", second, b.m.world(b.m.place(named("g"))))
	b.add(t, named("h"), names("ge")...)
	stands(t, b)
	viewed(t, b, names("hgfa")...)
}

func TestHandedOutOfMany(t *testing.T) {
	chance := rand.New(rand.NewSource(1))
	b := begun(t, 2, numbered(0))
	for range 80 {
		id, parents := b.newHash(chance), b.some(chance, 5)
		added, e := b.c.Add(id, parents...)
		fine(t, e)
		b.m.add(id, b.m.places(parents))
		got, e := b.c.Get(id)
		fine(t, e)
		view, e := b.c.View(parents[0], parents...)
		fine(t, e)
		world, e := b.c.World(id)
		fine(t, e)
		spoilt(added, got, view)
		clear(world[:cap(world)])
	}
	stands(t, b)
}

// What was handed in is the caller's: neither does the colouring change it, nor does it change the colouring.
func TestHandedIn(t *testing.T) {
	b := grown(t, 1, "r", "ar", "br", "cr", "dr")
	all := names("xdcabx")
	parents := all[1:5]
	_, e := b.c.Add(named("e"), parents...)
	fine(t, e)
	for range 2 {
		told(t, "Select", named("e"))(b.c.Select(append(parents[:4:4], named("e"))...))
		told(t, "Select", named("d"))(b.c.Select(parents...))
		_, e = b.c.View(named("a"), parents...)
		fine(t, e)
	}
	same(t, "what was handed in", all, names("xdcabx"))
	clear(all)
	_, e = b.c.Add(named("f"), named("e"))
	fine(t, e)
	other := grown(t, 1, "r", "ar", "br", "cr", "dr", "edcab", "fe")
	stands(t, &both{b.c, other.m})
	for _, l := range [][]api.Hash{parents, all} {
		refusedColour(t, "Add", api.ErrParents)(b.c.Add(named("g"), l...))
		refusedHash(t, "Select", api.ErrNone)(b.c.Select(l...))
		refusedColour(t, "View", api.ErrNone)(b.c.View(named("a"), l...))
	}
	same(t, "what was handed in", all, slices.Repeat([]api.Hash{{}}, 6))
}
