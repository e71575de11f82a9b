package merkle_test

import (
	"bytes"
	"encoding/json"
	"math/rand"
	"os"
	"os/exec"
	"path/filepath"
	"slices"
	"strings"
	"testing"

	"plexus/api"
	"plexus/merkle"
	"plexus/sha"
)

// weakSha is a layer 2 whose hashes are so few that a path can be found that should not check.
const weakSha = `package sha

import (
	"bytes"
	"crypto/sha256"

	"plexus/api"
)

func Sum(parts ...[]byte) api.Hash {
	h := sha256.Sum256(bytes.Join(parts, nil))
	return api.Hash{h[0] & 7}
}

func Tag(name string, parts ...[]byte) api.Hash {
	return Sum(append([][]byte{{byte(len(name))}, []byte(name)}, parts...)...)
}
`

func isWeak() bool {
	return sha.Sum([]byte("abc"))[1] == 0
}

// weakOverlay tells the go command to read weakSha in the place of layer 2's files.
func weakOverlay(t *testing.T) string {
	t.Helper()
	dir := t.TempDir()
	files, err := filepath.Glob("../sha/*.go")
	if err != nil || len(files) == 0 {
		t.Fatal(files, err)
	}
	replace := map[string]string{}
	for _, f := range append(files, "../sha/weak.go") {
		whole, err := filepath.Abs(f)
		if err != nil {
			t.Fatal(err)
		}
		replace[whole] = ""
		if strings.HasSuffix(f, "/weak.go") {
			replace[whole] = filepath.Join(dir, "weak.go")
		}
	}
	told, err := json.Marshal(map[string]any{"Replace": replace})
	if err != nil {
		t.Fatal(err)
	}
	overlay := filepath.Join(dir, "overlay.json")
	for name, b := range map[string][]byte{filepath.Join(dir, "weak.go"): []byte(weakSha), overlay: told} {
		if err := os.WriteFile(name, b, 0o600); err != nil {
			t.Fatal(err)
		}
	}
	return overlay
}

// No path is known that collides under SHA-256; so this test is run once more, over a weak hash.
func TestCollide(t *testing.T) {
	if isWeak() {
		collideWeakly(t)
		return
	}
	told, err := exec.Command("go", "test", "-count=1", "-v", "-run=^TestCollide$", "-overlay="+weakOverlay(t), ".").CombinedOutput()
	if err != nil || !bytes.Contains(told, []byte("--- PASS: TestCollide")) {
		t.Fatalf("%v\n%s", err, told)
	}
}

// whole is what layer 2 hashes under a name.
func whole(name string, parts ...[]byte) string {
	return string(byte(len(name))) + name + string(bytes.Join(parts, nil))
}

func wholeRoot(count int, top ...api.Hash) string {
	var b []byte
	for _, h := range top {
		b = append(b, h[:]...)
	}
	return whole("root", []byte{byte(count), 0, 0, 0, 0, 0, 0, 0}, b)
}

// textsOf answers what is hashed of all hashes.
func textsOf(ids []api.Hash) []string {
	if len(ids) == 0 {
		return []string{wholeRoot(0)}
	}
	var texts []string
	var down func(ids []api.Hash)
	down = func(ids []api.Hash) {
		if len(ids) == 1 {
			texts = append(texts, whole("leaf", ids[0][:]))
			return
		}
		k := under(len(ids))
		left, right := top(ids[:k]), top(ids[k:])
		texts = append(texts, whole("knot", left[:], right[:]))
		down(ids[:k])
		down(ids[k:])
	}
	down(ids)
	return append(texts, wholeRoot(len(ids), top(ids)))
}

// textsOfPath answers what is hashed by a path, and the root that it comes to.
func textsOfPath(id api.Hash, p api.Path) []string {
	texts := []string{whole("leaf", id[:])}
	var down func(n, count int, l []api.Hash) api.Hash
	down = func(n, count int, l []api.Hash) api.Hash {
		if count == 1 {
			return leaf(id)
		}
		k, last := under(count), len(l)-1
		left, right := l[last], l[last]
		if n < k {
			left = down(n, k, l[:last])
		} else {
			right = down(n-k, count-k, l[:last])
		}
		texts = append(texts, whole("knot", left[:], right[:]))
		return knot(left, right)
	}
	return append(texts, wholeRoot(p.Count, down(p.N, p.Count, p.Hashes)))
}

func collideWeakly(t *testing.T) {
	chance := rand.New(rand.NewSource(1))
	kinds := map[string]int{}
	for range 200000 {
		ids := make([]api.Hash, chance.Intn(10))
		for i := range ids {
			ids[i] = api.Hash{byte(chance.Intn(20)), 1}
		}
		id, p := someWeakPath(t, chance, ids)
		checks := merkle.Check(merkle.Root(ids...), id, p) == api.OK
		own := p.Count == len(ids) && p.N < len(ids) && ids[p.N] == id
		a, b, is := merkle.Collide(id, p, ids...)
		if is != (checks && !own) {
			t.Fatalf("%v, %v of %v: %v; checks: %v", id, p, ids, is, checks)
		}
		if !is {
			if a != nil || b != nil {
				t.Fatalf("%v, %v of %v: nothing collides, but %x and %x are told", id, p, ids, a, b)
			}
			kinds["none"]++
			continue
		}
		if bytes.Equal(a, b) || sha.Sum(a) != sha.Sum(b) || !bytes.Equal(a[:5], b[:5]) {
			t.Fatalf("%v, %v of %v: %x and %x do not collide", id, p, ids, a, b)
		}
		if !slices.Contains(textsOfPath(id, p), string(a)) || !slices.Contains(textsOf(ids), string(b)) {
			t.Fatalf("%v, %v of %v: %x and %x were not hashed for it", id, p, ids, a, b)
		}
		kind := string(a[1:5])
		if p.Count != len(ids) {
			kind += " of another Count"
		}
		kinds[kind]++
		kept := slices.Clone(b)
		_ = append(a[:len(a):cap(a)], 1, 2, 3)
		a[0]++
		if !bytes.Equal(b, kept) {
			t.Fatal("both texts share memory")
		}
	}
	for _, kind := range []string{"none", "leaf", "knot", "root", "root of another Count"} {
		if kinds[kind] < 100 {
			t.Errorf("%s: met %d times alone", kind, kinds[kind])
		}
	}
	t.Log(kinds)
}

// someWeakPath answers a path with its right number of Hashes; now and then that of some place, or what else stands near it.
func someWeakPath(t *testing.T, chance *rand.Rand, ids []api.Hash) (api.Hash, api.Path) {
	t.Helper()
	id := api.Hash{byte(chance.Intn(20)), 1}
	if len(ids) > 0 && chance.Intn(2) == 0 {
		n := chance.Intn(len(ids))
		p := pathOf(t, n, ids...)
		if chance.Intn(4) == 0 {
			id = ids[n]
		}
		if len(p.Hashes) > 0 && chance.Intn(2) == 0 {
			p.Hashes[chance.Intn(len(p.Hashes))] = api.Hash{byte(chance.Intn(8))}
		}
		return id, p
	}
	count := 1 + chance.Intn(10)
	n := chance.Intn(count)
	size, _ := merkle.Size(n, count)
	p := api.Path{N: n, Count: count, Hashes: make([]api.Hash, size)}
	for i := range p.Hashes {
		p.Hashes[i] = api.Hash{byte(chance.Intn(8))}
	}
	return id, p
}
