package disk_test

import (
	"math/rand"
	"strings"
	"testing"

	"plexus/disk"
)

// Of many rows of calls each answer is what the words say, and so is each disk behind each call.
func TestManyRowsOfCalls(t *testing.T) {
	for seed := range int64(3000) {
		chance := rand.New(rand.NewSource(seed))
		b := newBoth()
		old := b.copy()
		for range 60 {
			if got, want := b.any(chance); got != want {
				t.Errorf("%v, want %v", got, want)
			}
			stands(t, b)
			if chance.Intn(8) == 0 {
				b, old = b.copy(), b
			}
			if t.Failed() {
				t.Fatalf("the row of %d", seed)
			}
		}
		stands(t, old)
		if got, want := old.d.Same(b.d), old.w.read() == b.w.read(); got != want {
			t.Fatalf("the row of %d: %t, want %t", seed, got, want)
		}
	}
}

// Two that get the same calls are the same, whatever is done to a copy meanwhile.
func TestTwiceTheSame(t *testing.T) {
	for seed := range int64(300) {
		one, two := newBoth(), newBoth()
		a, b, c := rand.New(rand.NewSource(seed)), rand.New(rand.NewSource(seed)), rand.New(rand.NewSource(-seed))
		for range 60 {
			one.any(a)
			two.any(b)
			two.copy().any(c)
		}
		if !one.d.Same(two.d) || one.d.Waiting() != two.d.Waiting() || one.d.Dead() != two.d.Dead() {
			t.Fatalf("the row of %d", seed)
		}
		fine(t, one.d.Crash(1, 1), two.d.Crash(1, 1))
		if !one.d.Same(two.d) {
			t.Fatalf("the row of %d, behind a loss of power", seed)
		}
	}
}

// textsOf is what is read of d.
func textsOf(d *disk.Disk) texts {
	var l texts
	for log := range l {
		b, _ := d.Read(log)
		l[log] = string(b)
	}
	return l
}

// steady does so many steps, and answers what is read behind each of them, and what each put, and where.
func steady(d *disk.Disk, chance *rand.Rand, n int) (behind []texts, puts []change) {
	behind = []texts{textsOf(d)}
	for range n {
		c := change{log: someLog(chance)}
		if end := d.Len(c.log); chance.Intn(3) == 0 {
			d.Cut(c.log, chance.Intn(end+1))
		} else {
			c.text = someText(chance)
			d.Append(c.log, []byte(c.text))
		}
		behind, puts = append(behind, textsOf(d)), append(puts, c)
	}
	return behind, puts
}

// Behind a loss of power the logs are as behind some of the first steps that waited, and perhaps a beginning of the
// next one's bytes; and each of these there may be.
func TestWhatIsLeftOfALossOfPower(t *testing.T) {
	for seed := range int64(200) {
		chance := rand.New(rand.NewSource(seed))
		d := disk.New()
		steady(d, chance, chance.Intn(20))
		fine(t, d.Sync())
		behind, puts := steady(d, chance, chance.Intn(12))
		met := map[texts]int{}
		for keep := -20; keep < 20; keep++ {
			for tear := -8; tear < 8; tear++ {
				c := d.Copy()
				fine(t, c.Crash(keep, tear))
				met[textsOf(c)]++
			}
		}
		may := map[texts]int{}
		for i, l := range behind {
			may[l]++
			if i < len(puts) {
				for n := range len(puts[i].text) + 1 {
					torn := l
					torn[puts[i].log] += puts[i].text[:n]
					may[torn]++
				}
			}
		}
		for l := range met {
			if may[l] == 0 {
				t.Fatalf("%d: %q can't be left", seed, l)
			}
		}
		for l := range may {
			if met[l] == 0 {
				t.Fatalf("%d: %q is never left", seed, l)
			}
		}
	}
}

// What was synced lasts: where nothing is cut, each log begins with it, whatever comes.
func TestWhatWasSyncedLasts(t *testing.T) {
	for seed := range int64(500) {
		chance := rand.New(rand.NewSource(seed))
		d := disk.New()
		var synced texts
		for range 80 {
			switch chance.Intn(8) {
			case 0:
				if e := d.Sync(); e == 0 {
					synced = textsOf(d)
				}
			case 1:
				fine(t, d.SetFuse(chance.Intn(4)))
			case 2:
				fine(t, d.Crash(someNumber(chance), someNumber(chance)))
				for log, text := range textsOf(d) {
					if !strings.HasPrefix(text, synced[log]) {
						t.Fatalf("%d: %q of log %d is lost; there is %q", seed, synced[log], log, text)
					}
				}
			default:
				d.Append(someLog(chance), []byte(someText(chance)))
			}
		}
	}
}
