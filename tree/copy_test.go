package tree_test

import (
	"math/rand"
	"slices"
	"testing"
)

// A copy stands as the tree does, and goes on apart, both ways.
func TestCopy(t *testing.T) {
	b := grown(t, 0, 0, 1)
	c := b.copy()
	stands(t, c)
	b.add(t, 2)
	b.add(t, 4)
	stands(t, b)
	stands(t, c)
	c.add(t, 1)
	stands(t, b)
	stands(t, c)
	if b.t.Len() != 6 || c.t.Len() != 5 || b.t.Under(4, 2) == c.t.Under(4, 2) {
		t.Errorf("%d, %d nodes", b.t.Len(), c.t.Len())
	}
}

// A copy has the intervals that the tree has, and how often they were dealt; neither changes with the other one.
func TestCopyOfIntervals(t *testing.T) {
	b := begun()
	last := b.chain(t, 0, 200)
	c := b.copy()
	early, dealt := b.intervals(t), b.t.Dealt()
	if !slices.Equal(c.intervals(t), early) || c.t.Dealt() != dealt || dealt == 0 {
		t.Errorf("dealt %d times, the tree %d", c.t.Dealt(), dealt)
	}
	b.chain(t, last, 200)
	if !slices.Equal(c.intervals(t), early) || c.t.Dealt() != dealt || b.t.Dealt() == dealt {
		t.Error("the copy's intervals went on with the tree's")
	}
	late, often := b.intervals(t), b.t.Dealt()
	c.chain(t, 3, 300)
	if !slices.Equal(b.intervals(t), late) || b.t.Dealt() != often || c.t.Dealt() == dealt {
		t.Error("the tree's intervals went on with the copy's")
	}
	stands(t, b)
	stands(t, c)
}

// Copies that were made at each length, and of copies, take other children of the same ones; none sees another one's.
func TestCopiesOfEachLength(t *testing.T) {
	l := []*both{grown(t, 0)}
	for i := range 40 {
		c := l[i*7%len(l)].copy()
		l = append(l, c)
		for n, o := range l {
			for range 1 + n%3 {
				o.add(t, i%2)
			}
			o.add(t, o.t.Len()-1)
		}
	}
	for _, c := range l {
		stands(t, c)
	}
}

func TestManyCopies(t *testing.T) {
	for seed := range int64(40) {
		chance := rand.New(rand.NewSource(seed))
		l := []*both{begun(), narrow(3000)}
		for range 30 {
			b := l[chance.Intn(len(l))]
			b.grow(t, chance, chance.Intn(25))
			if chance.Intn(3) == 0 {
				l = append(l, b.copy())
			}
		}
		for _, b := range l {
			stands(t, b)
		}
	}
}
