package ghost_test

import (
	"math/rand"
	"testing"
)

// A copy stands as the colouring does, and goes on apart, both ways.
func TestCopy(t *testing.T) {
	for k := range 4 {
		b := grown(t, k, "r", "ar", "br", "cab")
		c := b.copy()
		stands(t, c)
		b.add(t, named("d"), names("a")...)
		b.add(t, named("e"), names("dc")...)
		stands(t, b)
		stands(t, c)
		c.add(t, named("e"), names("b")...)
		c.add(t, named("f"), names("ce")...)
		stands(t, b)
		stands(t, c)
		b.add(t, named("f"), names("r")...)
		c.add(t, named("d"), names("fr")...)
		stands(t, b)
		stands(t, c)
		if b.c.Index() == c.c.Index() || b.c.Index().Graph() == c.c.Index().Graph() {
			t.Error("both have one index, or one graph")
		}
	}
}

// The same one comes to both behind unlike others, and others behind it: each has it as it came there, and fills its own.
func TestCopyWithOneOfItsOwn(t *testing.T) {
	b := grown(t, 2, "r", "ar", "br", "cr")
	c := b.copy()
	b.add(t, named("x"), names("abc")...)
	c.add(t, named("x"), names("b")...)
	b.add(t, named("y"), names("a")...)
	c.add(t, named("y"), names("ac")...)
	b.add(t, named("z"), names("xy")...)
	c.add(t, named("z"), names("xy")...)
	stands(t, b)
	stands(t, c)
	if b.c.Blue(named("b"), named("x")) == c.c.Blue(named("a"), named("x")) || b.c.Best(named("x"), named("y")) == c.c.Best(named("x"), named("y")) {
		t.Error("both have one x")
	}
}

// Copies of each length, and of copies.
func TestCopiesOfEachLength(t *testing.T) {
	first := begun(t, 2, numbered(0))
	first.put(t, 0)
	first.put(t, 0)
	l := []*both{first}
	for i := range 16 {
		l = append(l, l[i*7%len(l)].copy())
		for n, o := range l {
			side := o.put(t, n%3)
			o.put(t, side, 1+i%2)
		}
	}
	for _, c := range l {
		stands(t, c)
	}
}

func TestManyCopies(t *testing.T) {
	for seed := range int64(30) {
		chance := rand.New(rand.NewSource(seed))
		l := []*both{someColours(t, chance, someK(chance), 1+chance.Intn(40))}
		for range 40 {
			b := l[chance.Intn(len(l))]
			b.grow(t, chance)
			if chance.Intn(6) == 0 {
				l = append(l, b.copy())
			}
		}
		for _, b := range l {
			stands(t, b)
			viewed(t, b, b.some(chance, 4)...)
		}
	}
}
