package dag_test

import (
	"math/rand"
	"slices"
	"testing"

	"plexus/api"
	"plexus/dag"
)

func (b *both) copy() *both {
	return &both{b.g.Copy(), b.m.copy()}
}

// A copy stands as the graph does, and goes on apart, both ways.
func TestCopy(t *testing.T) {
	b := grown(t, "r", "ar", "br")
	c := b.copy()
	stands(t, c)
	b.add(t, named("c"), names("ab")...)
	stands(t, c)
	c.add(t, named("d"), named("a"))
	stands(t, b)
	c.add(t, named("c"), named("r"))
	b.add(t, named("d"), names("cb")...)
	stands(t, b)
	stands(t, c)
	if b.g.Before(named("a"), named("c")) == c.g.Before(named("a"), named("c")) {
		t.Error("both have one c")
	}
}

// Copies that were made at each length, and of copies, take other children of the same ones; none sees another one's.
func TestCopiesOfEachLength(t *testing.T) {
	b := grown(t, "r", "ar")
	l := []*both{b}
	for i := range 40 {
		c := l[i*7%len(l)].copy()
		for n, o := range append(slices.Clone(l), c) {
			o.add(t, numbered(1000*i+n), o.m.ids[:1+i%2]...)
		}
		l = append(l, c)
	}
	for _, c := range l {
		stands(t, c)
	}
}

// What is gone over stays what it was, though graph and copy both go on.
func TestAllOfACopy(t *testing.T) {
	for n := 1; n < 20; n++ {
		b := chain(t, n)
		c := b.copy()
		every, other := b.g.All(), c.g.All()
		b.add(t, named("b"), numbered(0))
		c.add(t, named("c"), numbered(0))
		same(t, "All", slices.Collect(every), b.m.ids[:n])
		same(t, "All of the copy", slices.Collect(other), b.m.ids[:n])
		stands(t, b)
		stands(t, c)
	}
}

func TestManyCopies(t *testing.T) {
	for seed := range int64(60) {
		chance := rand.New(rand.NewSource(seed))
		l := []*both{someGraph(t, chance, 1+chance.Intn(70))}
		for range 40 {
			b := l[chance.Intn(len(l))]
			b.grow(t, chance)
			if chance.Intn(4) == 0 {
				l = append(l, b.copy())
			}
		}
		for _, b := range l {
			stands(t, b)
		}
	}
}

func TestCompare(t *testing.T) {
	var zero api.Hash
	full := api.Hash(slices.Repeat([]byte{255}, 32))
	for _, c := range []struct {
		a, b api.Hash
		want int
	}{
		{zero, zero, 0}, {full, full, 0}, {named("ab"), named("ab"), 0},
		{zero, full, -1}, {named("a"), named("b"), -1}, {named("a"), named("aa"), -1}, {named("az"), named("b"), -1},
		{api.Hash{0: 127}, api.Hash{0: 128}, -1}, {api.Hash{31: 127}, api.Hash{31: 128}, -1}, {api.Hash{31: 1}, api.Hash{0: 1}, -1},
		{api.Hash{0: 1, 31: 255}, api.Hash{0: 2}, -1}, {api.Hash{0: 1, 1: 9}, api.Hash{0: 1, 2: 255, 1: 8}, 1},
	} {
		if got := dag.Compare(c.a, c.b); got != c.want {
			t.Errorf("%x, %x: %d", c.a, c.b, got)
		}
		if got := dag.Compare(c.b, c.a); got != -c.want {
			t.Errorf("%x, %x: %d", c.b, c.a, got)
		}
	}
}

// The first byte that differs tells, whichever it is, and whatever stands behind it.
func TestCompareAtEachByte(t *testing.T) {
	chance := rand.New(rand.NewSource(1))
	for at := range 32 {
		for range 50 {
			var a, b api.Hash
			chance.Read(a[:])
			chance.Read(b[:])
			copy(a[:at], b[:at])
			if a[at] == b[at] {
				continue
			}
			want := 1
			if a[at] < b[at] {
				want = -1
			}
			if dag.Compare(a, b) != want || dag.Compare(b, a) != -want || dag.Compare(a, a) != 0 {
				t.Errorf("%x, %x: not %d", a, b, want)
			}
		}
	}
}

func TestSorted(t *testing.T) {
	for _, c := range []struct{ l, want string }{
		{"", ""}, {"a", "a"}, {"aa", "a"}, {"aaaa", "a"}, {"ab", "ab"}, {"ba", "ab"}, {"aba", "ab"}, {"bab", "ab"}, {"cbacba", "abc"}, {"zyx\x00\xff0", "\x000xyz\xff"},
	} {
		l := names(c.l)
		got := dag.Sorted(l)
		same(t, "Sorted", got, names(c.want))
		same(t, "what was handed in", l, names(c.l))
		clear(got[:cap(got)])
		same(t, "what was handed in, behind changing what was answered", l, names(c.l))
	}
	if len(dag.Sorted(nil))+len(dag.Sorted([]api.Hash{})) > 0 {
		t.Error("of none there is one")
	}
}

// What stands behind the list that is handed in, in the same memory, is not touched either.
func TestSortedOfAPart(t *testing.T) {
	l := names("dcbadcba")
	part := l[2:6]
	same(t, "Sorted", dag.Sorted(part), names("abcd"))
	same(t, "Sorted", dag.Sorted(l[4:4]), nil)
	same(t, "what was handed in", l, names("dcbadcba"))
}

// Hashes that differ in one byte alone, the first one, the last one, or any other, are each there once.
func TestSortedByOneByte(t *testing.T) {
	for at := range 32 {
		var l, want []api.Hash
		for i := range 256 {
			h := named("all the same but for one byte...")
			h[at] = byte(i)
			want = append(want, h)
		}
		for i := range 512 {
			l = append(l, want[i*77%256])
		}
		same(t, "Sorted", dag.Sorted(l), want)
		same(t, "Sorted again", dag.Sorted(want), want)
	}
}

func TestSortedOfMany(t *testing.T) {
	for seed := range int64(300) {
		chance := rand.New(rand.NewSource(seed))
		s := set{}
		var l []api.Hash
		for range chance.Intn(100) {
			h := anyHash(chance)
			s[h] = true
			for range 1 + chance.Intn(2) {
				l = append(l, h)
			}
		}
		chance.Shuffle(len(l), func(i, j int) { l[i], l[j] = l[j], l[i] })
		same(t, "Sorted", dag.Sorted(l), s.rising())
	}
}
