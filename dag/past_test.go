package dag_test

import (
	"math/rand"
	"testing"

	"plexus/api"
)

func TestPastFutureAnticone(t *testing.T) {
	b := grown(t, "m", "zm", "am", "nz", "bza", "yb", "cm", "dny")
	for _, c := range []struct{ of, past, future, anticone string }{
		{"m", "", "abcdnyz", ""},
		{"z", "m", "bdny", "ac"},
		{"a", "m", "bdy", "cnz"},
		{"n", "mz", "d", "abcy"},
		{"b", "amz", "dy", "cn"},
		{"y", "abmz", "d", "cn"},
		{"c", "m", "", "abdnyz"},
		{"d", "abmnyz", "", "c"},
	} {
		same(t, "Past of "+c.of, b.g.Past(named(c.of)), names(c.past))
		same(t, "Future of "+c.of, b.g.Future(named(c.of)), names(c.future))
		same(t, "Anticone of "+c.of, b.g.Anticone(named(c.of)), names(c.anticone))
	}
}

// The past of several has each one once, and those of them that stand in another one's past.
func TestPastOfSeveral(t *testing.T) {
	b := grown(t, "m", "zm", "am", "nz", "bza", "yb", "cm", "dny")
	for _, c := range []struct{ of, past string }{
		{"", ""}, {"m", ""}, {"mm", ""}, {"x", ""}, {"xx", ""}, {"xm", ""}, {"0x", ""},
		{"na", "mz"}, {"an", "mz"}, {"nb", "amz"}, {"bn", "amz"}, {"bb", "amz"}, {"nbnbn", "amz"},
		{"by", "abmz"}, {"yb", "abmz"}, {"ym", "abmz"}, {"cxa", "m"}, {"xnx", "mz"}, {"nxb", "amz"}, {"xnb0", "amz"},
		{"dc", "abmnyz"}, {"mzanbycd", "abmnyz"}, {"dcybnazm", "abmnyz"}, {"ny", "abmz"}, {"zac", "m"},
	} {
		same(t, "Past of "+c.of, b.g.Past(names(c.of)...), names(c.past))
	}
}

// What stands at each place of a graph that is greater than two words of bits is told of, and what stands beside it isn't.
func TestEachPlace(t *testing.T) {
	const n = 200
	b := wide(t, n)
	for i := range n {
		b.add(t, numbered(1000+i), numbered(i+1))
	}
	for i := range n {
		one, child := numbered(i+1), numbered(1000+i)
		same(t, "Past", b.g.Past(child), []api.Hash{numbered(0), one})
		same(t, "Future", b.g.Future(one), []api.Hash{child})
		asked(t, "Children", b.g.Children, one, []api.Hash{child})
		if l := b.g.Anticone(child); len(l) != 2*n-2 || !isRising(l) {
			t.Errorf("%d: %d stand beside it", i, len(l))
		}
		for j := range n {
			if got := b.g.Before(numbered(j+1), child); got != (i == j) {
				t.Errorf("Before: %d, %d: %t", j, i, got)
			}
		}
	}
	stands(t, b)
}

// The pasts of two from any two places come together, the later one handed in first, or last.
func TestTwoPlacesAtOnce(t *testing.T) {
	const n = 140
	b := wide(t, n)
	id := 1000
	for i := range n {
		for _, j := range []int{0, 1, 61, 62, 63, 64, 65, 126, 127, 128, 129, 139} {
			if i == j {
				continue
			}
			b.add(t, numbered(id), numbered(i+1), numbered(j+1))
			want := []api.Hash{numbered(0), numbered(min(i, j) + 1), numbered(max(i, j) + 1)}
			same(t, "Past", b.g.Past(numbered(id)), want)
			id++
		}
	}
}

// Of greater graphs, and of some of their hashes at once, and of what is not there among them.
func TestGreaterGraphs(t *testing.T) {
	for seed := range int64(20) {
		chance := rand.New(rand.NewSource(seed))
		b := someGraph(t, chance, 100+chance.Intn(200))
		stands(t, b)
		for range 30 {
			var some []api.Hash
			for range chance.Intn(5) {
				some = append(some, b.m.ids[chance.Intn(len(b.m.ids))])
				if chance.Intn(3) == 0 {
					some = append(some, numbered(chance.Intn(1000)<<20), some[0])
				}
			}
			same(t, "Past of several", b.g.Past(some...), b.m.past(some...).rising())
		}
	}
}
