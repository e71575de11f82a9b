package reach_test

import (
	"math/rand"
	"testing"
)

// A copy stands as the index does, and goes on apart, both ways.
func TestCopy(t *testing.T) {
	b := grown(t, "r", "ar", "br", "cab")
	c := b.copy()
	stands(t, c)
	b.add(t, named("d"), named("a"), names("ab")...)
	stands(t, b)
	stands(t, c)
	c.add(t, named("e"), named("c"), named("c"))
	c.add(t, named("f"), named("a"), names("abe")...)
	stands(t, b)
	stands(t, c)
	b.add(t, named("e"), named("r"), named("r"))
	c.add(t, named("d"), named("b"), names("ab")...)
	stands(t, b)
	stands(t, c)
	if b.x.Graph() == c.x.Graph() || b.x.Chain(named("c"), named("e")) == c.x.Chain(named("c"), named("e")) {
		t.Error("both have one graph, or one e")
	}
}

// A copy has the intervals that the index has, and how often they were dealt; neither changes with the other one.
func TestCopyOfIntervals(t *testing.T) {
	b := begun(numbered(0))
	last := b.chain(t, 0, 120)
	c := b.copy()
	dealt := b.x.Dealt()
	b.chain(t, last, 100)
	if c.x.Dealt() != dealt || b.x.Dealt() == dealt {
		t.Errorf("dealt %d and %d times, at first %d", b.x.Dealt(), c.x.Dealt(), dealt)
	}
	stands(t, c)
	dealt = b.x.Dealt()
	c.chain(t, 3, 150)
	if b.x.Dealt() != dealt {
		t.Error("the index's intervals went on with the copy's")
	}
	stands(t, b)
	stands(t, c)
}

// Copies of each length, and of copies, cover the same ones by other ones; none sees another one's.
func TestCopiesOfEachLength(t *testing.T) {
	first := begun(numbered(0))
	first.put(t, 0)
	first.put(t, 0)
	l := []*both{first}
	for i := range 25 {
		l = append(l, l[i*7%len(l)].copy())
		for n, o := range l {
			side := o.put(t, n%3)
			o.put(t, side, 1+i%2)
		}
	}
	for _, c := range l {
		stands(t, c)
	}
}

func TestManyCopies(t *testing.T) {
	for seed := range int64(60) {
		chance := rand.New(rand.NewSource(seed))
		l := []*both{someIndex(t, chance, 1+chance.Intn(60))}
		for range 40 {
			b := l[chance.Intn(len(l))]
			b.grow(t, chance)
			if chance.Intn(6) == 0 {
				l = append(l, b.copy())
			}
		}
		for _, b := range l {
			stands(t, b)
		}
	}
}
