package reach_test

import (
	"math/rand"
	"slices"
	"testing"

	"plexus/api"
	"plexus/reach"
)

func TestUp(t *testing.T) {
	b := grown(t, "r", "ar", "br", "cab", "dbc", "edc")
	for _, c := range []struct{ of, want string }{{"r", "r"}, {"a", "ar"}, {"b", "br"}, {"c", "car"}, {"d", "dbr"}, {"e", "edbr"}, {"x", ""}} {
		same(t, "Up("+c.of+")", slices.Collect(b.x.Up(named(c.of))), names(c.want))
	}
	var nobody *reach.Index
	for _, every := range []func(func(api.Hash) bool){b.x.Up(named("x")), b.x.Up(api.Hash{}), nobody.Up(named("r")), new(reach.Index).Up(api.Hash{})} {
		for range 2 {
			if l := slices.Collect(every); len(l) > 0 {
				t.Errorf("of one that is not there: %.4x", l)
			}
		}
	}
}

// It may be left behind any one of a chain, and is gone through again from the beginning on, as often as one likes, and within
// itself.
func TestUpLeft(t *testing.T) {
	b := begun(numbered(0))
	last := b.chain(t, 0, 100)
	every := b.x.Up(numbered(last))
	want := b.m.hashes(b.m.up(last))
	for left := range want {
		var got []api.Hash
		for id := range every {
			if got = append(got, id); len(got) > left {
				break
			}
		}
		same(t, "Up, left", got, want[:left+1])
	}
	same(t, "Up", slices.Collect(every), want)
	same(t, "Up again", slices.Collect(every), want)
	at := 0
	for id := range every {
		if id != want[at] {
			t.Fatalf("%.4x, want %.4x", id, want[at])
		}
		if at%10 == 0 {
			same(t, "Up within Up", slices.Collect(every), want)
		}
		at++
	}
}

// Who looks on from within may leave by a panic of its own: nothing is kept of that.
func TestUpLeftByPanic(t *testing.T) {
	b := grown(t, "r", "ar", "ba")
	every := b.x.Up(named("b"))
	func() {
		defer func() { _ = recover() }()
		for range every {
			panic("enough")
		}
	}()
	same(t, "Up", slices.Collect(every), names("bar"))
	stands(t, b)
}

// Others come behind a chain while it is gone over, and between two turns, so many that intervals are dealt anew: the chain
// stays what it is.
func TestUpWhileOthersCome(t *testing.T) {
	b := begun(numbered(0))
	last := b.chain(t, 0, 70)
	want := b.m.hashes(b.m.up(last))
	every := b.x.Up(numbered(last))
	dealt := b.x.Dealt()
	for range 2 {
		var got []api.Hash
		for id := range every {
			got = append(got, id)
			n := b.put(t, b.m.place(id))
			b.put(t, n, last)
			b.put(t, last, n)
		}
		same(t, "Up while others come", got, want)
		b.chain(t, last, 40)
		same(t, "Up behind that", slices.Collect(every), want)
	}
	if b.x.Dealt() == dealt {
		t.Error("intervals were never dealt anew")
	}
	stands(t, b)
}

// The chain of a copy is gone over while the index goes on, and the other way round.
func TestUpOfACopy(t *testing.T) {
	b := begun(numbered(0))
	last := b.chain(t, 0, 90)
	c := b.copy()
	want := b.m.hashes(b.m.up(last))
	every, other := b.x.Up(numbered(last)), c.x.Up(numbered(last))
	b.put(t, 3, last)
	c.put(t, 5)
	c.chain(t, last, 30)
	same(t, "Up", slices.Collect(every), want)
	same(t, "Up of the copy", slices.Collect(other), want)
	stands(t, b)
	stands(t, c)
}

func TestUpOfMany(t *testing.T) {
	for seed := range int64(40) {
		b := someIndex(t, rand.New(rand.NewSource(seed)), 200)
		for n, id := range b.m.ids {
			up := slices.Collect(b.x.Up(id))
			same(t, "Up", up, b.m.hashes(b.m.up(n)))
			for i, o := range up {
				if !b.x.Chain(o, id) || i > 0 && !b.x.Before(o, id) {
					t.Fatalf("%d: %.4x is not on the chain, or not in the past", seed, o)
				}
			}
		}
	}
}
