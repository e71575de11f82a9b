package tree_test

import (
	"math/rand"
	"slices"
	"testing"

	"plexus/api"
	"plexus/tree"
)

func TestChain(t *testing.T) {
	b := begun()
	for range 8 {
		b.chain(t, b.t.Len()-1, 100)
		stands(t, b)
	}
	if b.t.Dealt() == 0 {
		t.Error("a chain of 800 was never dealt anew")
	}
}

func TestWide(t *testing.T) {
	b := begun()
	for range 8 {
		b.wide(t, 0, 100)
		stands(t, b)
	}
}

// A chain under a wide node: under its first child, one within, its last one, or under itself, beside them.
func TestChainUnderWide(t *testing.T) {
	for _, under := range []int{1, 150, 300, 0} {
		b := begun()
		b.wide(t, 0, 300)
		b.chain(t, under, 400)
		stands(t, b)
		b.wide(t, 0, 50)
		stands(t, b)
	}
}

// A wide node at the end of a chain, and one within it.
func TestWideUnderChain(t *testing.T) {
	for _, under := range []int{400, 399, 200, 61, 62, 63, 1, 0} {
		b := begun()
		b.chain(t, 0, 400)
		b.wide(t, under, 300)
		stands(t, b)
		b.chain(t, 400, 20)
		stands(t, b)
	}
}

// Chains of all lengths around that at which room ends, and wide nodes at their ends.
func TestWhereRoomEnds(t *testing.T) {
	for length := range 80 {
		b := begun()
		last := b.chain(t, 0, length)
		b.wide(t, last, 80)
		stands(t, b)
		b.chain(t, last, 5)
		b.wide(t, 0, 5)
		stands(t, b)
	}
}

// Behind dealing anew below the root the tree goes on anywhere. What stands above what was dealt keeps its interval.
func TestDealtBelow(t *testing.T) {
	b := begun()
	b.chain(t, 0, 30)
	early := b.intervals(t)
	chance := rand.New(rand.NewSource(1))
	for last, dealt := 30, 0; dealt < 40; last = b.add(t, last) {
		if b.t.Dealt() == dealt {
			continue
		}
		dealt = b.t.Dealt()
		if late := b.intervals(t); !slices.Equal(late[:20], early[:20]) {
			t.Fatal("intervals were dealt anew far above")
		}
		for range 10 {
			b.add(t, chance.Intn(b.t.Len()))
			dealt = b.t.Dealt()
		}
		stands(t, b)
	}
}

// Behind dealing anew at the root the tree goes on anywhere: a root of few numbers is dealt again and again.
func TestDealtAtTheRoot(t *testing.T) {
	for _, choose := range habits() {
		for _, upper := range []uint64{400, 401, 450, 700, 1000, 5000, 100000} {
			b := narrow(upper)
			chance := rand.New(rand.NewSource(int64(upper)))
			b.add(t, 0)
			first, moved := b.intervals(t)[1], 0
			for b.t.Len() < 200 {
				b.add(t, choose(chance, b.t.Len()))
				if late := b.intervals(t); late[1] != first || late[0] != (interval{1, upper}) {
					first = late[1]
					moved++
				}
			}
			if stands(t, b); upper < 1000 && moved == 0 {
				t.Errorf("up to %d: the root's interval was never dealt anew", upper)
			}
		}
	}
}

// Of 2n numbers n nodes have room, in whichever order they come, though no number is left over.
func TestLeastRoom(t *testing.T) {
	for n := uint64(1); n < 40; n++ {
		for i, choose := range habits() {
			b := narrow(2*n - 1)
			chance := rand.New(rand.NewSource(int64(i)))
			for uint64(b.t.Len()) < n {
				b.add(t, choose(chance, b.t.Len()))
				stands(t, b)
			}
		}
	}
}

// Children come to a node that has none left for them, many times, at the root and below.
func TestWideAgainAndAgain(t *testing.T) {
	for _, upper := range []uint64{1200, 3000, 1 << 20} {
		b := narrow(upper)
		b.wide(t, 0, 300)
		b.wide(t, 150, 150)
		b.wide(t, 0, 100)
		stands(t, b)
	}
}

// Interval tells what is so now: behind dealing anew it is another one, which a caller's old answer does not become.
func TestIntervalNow(t *testing.T) {
	b := begun()
	last := b.chain(t, 0, 40)
	lower, upper, e := b.t.Interval(last)
	fine(t, e)
	for n := last; b.t.Dealt() == 0; n = b.add(t, n) {
		if l, u, _ := b.t.Interval(last); l != lower || u != upper {
			t.Fatal("it is another one, though none was dealt anew")
		}
	}
	b.chain(t, b.t.Len()-1, 2000)
	if l, u, _ := b.t.Interval(last); l == lower && u == upper {
		t.Error("it is the same, though the chain below it is long")
	}
}

// The intervals of children lie in the order in which these came, however often they are dealt: of two nodes that stand apart
// the same one is always the one ahead.
func TestOrderStays(t *testing.T) {
	for _, upper := range []uint64{900, 5000, 1 << 62} {
		for i, choose := range habits() {
			b := narrow(upper)
			chance := rand.New(rand.NewSource(int64(i)))
			for b.t.Len() < 400 {
				b.add(t, choose(chance, b.t.Len()))
				l := b.intervals(t)
				last := make([]uint64, len(l))
				for n, p := range b.m.parents {
					if n > 0 && l[n].lower <= last[p] {
						t.Fatalf("up to %d: %d lies ahead of an earlier child of %d", upper, n, p)
					}
					if n > 0 {
						last[p] = l[n].upper
					}
				}
			}
		}
	}
}

// Of many nodes each call still ends soon, and intervals are such as is said.
func TestMany(t *testing.T) {
	const n = 100000
	for name, parent := range map[string]func(int) int{
		"a chain":                    func(i int) int { return i - 1 },
		"a wide node":                func(int) int { return 0 },
		"a chain under a wide node":  func(i int) int { return max(0, i-1) * min(1, i/(n/2)) },
		"a wide node under a chain":  func(i int) int { return min(i-1, n/2) },
		"two chains":                 func(i int) int { return max(0, i-2) },
		"a hundred chains":           func(i int) int { return max(0, i-100) },
		"a chain, then from its end": func(i int) int { return min(i-1, n-i) },
		"a comb":                     func(i int) int { return max(0, i-2+i%2) },
		"wide ones along a chain":    func(i int) int { return (i - 1) / 300 * 300 },
		"chains under one below": func(i int) int {
			if i > 50 && i%60 == 0 {
				return 50
			}
			return i - 1
		},
	} {
		o := tree.New()
		b := of(o)
		for i := 1; i <= n; i++ {
			if got, e := o.Add(parent(i)); got != i || e != api.OK {
				t.Fatalf("%s: %d, %v", name, got, e)
			}
			b.m.parents = append(b.m.parents, parent(i))
		}
		laid(t, b, b.intervals(t))
		beside(t, b)
		chance := rand.New(rand.NewSource(1))
		for range 100 {
			x, y := chance.Intn(n), chance.Intn(n)
			if o.Under(x, y) != b.m.stands(x, y) || o.Dealt() > n {
				t.Fatalf("%s: Under(%d, %d)", name, x, y)
			}
		}
		number(t, name, o.Size, 0, n+1)
	}
}
