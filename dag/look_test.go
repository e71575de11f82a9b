package dag_test

import (
	"testing"

	"plexus/api"
)

func TestParentsAndChildren(t *testing.T) {
	b := grown(t, "m", "zm", "am", "nza", "bnm", "ym", "czyb")
	for _, c := range []struct{ of, parents, children string }{
		{"m", "", "abyz"}, {"z", "m", "cn"}, {"a", "m", "n"}, {"n", "az", "b"}, {"b", "mn", "c"}, {"y", "m", "c"}, {"c", "byz", ""},
	} {
		asked(t, "Parents of "+c.of, b.g.Parents, named(c.of), names(c.parents))
		asked(t, "Children of "+c.of, b.g.Children, named(c.of), names(c.children))
	}
	for _, id := range []api.Hash{{}, named("d"), named("mm")} {
		parents, e := b.g.Parents(id)
		children, o := b.g.Children(id)
		if parents != nil || children != nil || e != api.ErrNone || o != api.ErrNone {
			t.Errorf("%.4x: %v, %v", id, e, o)
		}
	}
}

func TestTips(t *testing.T) {
	b := grown(t, "m")
	for _, c := range []struct{ line, tips string }{
		{"", "m"}, {"zm", "z"}, {"am", "az"}, {"nm", "anz"}, {"baz", "bn"}, {"0a", "0bn"}, {"cm", "0bcn"}, {"d0bcn", "d"}, {"xd", "x"}, {"wd", "wx"},
	} {
		if c.line != "" {
			b.add(t, names(c.line)[0], names(c.line)[1:]...)
		}
		same(t, "Tips", b.g.Tips(), names(c.tips))
	}
}

// Before tells of what stands ahead over one step, and over many; not of one and itself, nor backwards, nor beside.
func TestBefore(t *testing.T) {
	b := grown(t, "r", "ar", "br", "cab", "dc", "eb")
	ahead := map[string]bool{"ra": true, "rb": true, "rc": true, "rd": true, "re": true, "ac": true, "ad": true, "bc": true, "bd": true, "be": true, "cd": true}
	for _, x := range "rabcde" {
		for _, y := range "rabcde" {
			if got := b.g.Before(named(string(x)), named(string(y))); got != ahead[string(x)+string(y)] {
				t.Errorf("Before(%c, %c): %t", x, y, got)
			}
		}
	}
}

// Of what is not there nothing is told, be it the one, the other one, or both.
func TestWhatIsNotThere(t *testing.T) {
	b := grown(t, "r", "ar", "br", "cab")
	for _, x := range append(names("xdz"), api.Hash{}, named("rr"), named("ca")) {
		for _, id := range append(names("rabc"), x) {
			if b.g.Before(x, id) || b.g.Before(id, x) {
				t.Errorf("%.4x stands ahead of %.4x, or behind it", x, id)
			}
		}
		if len(b.g.Past(x))+len(b.g.Past(x, x))+len(b.g.Future(x))+len(b.g.Anticone(x)) > 0 {
			t.Errorf("something stands around %.4x", x)
		}
	}
	stands(t, b)
}
