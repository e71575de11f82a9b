package block_test

import (
	"bytes"
	"encoding/json"
	"math/rand"
	"os"
	"os/exec"
	"path/filepath"
	"slices"
	"testing"

	"plexus/api"
	"plexus/block"
	"plexus/merkle"
	"plexus/sha"
	"plexus/tx"
)

// weakSha is a layer 2 of so few hashes that unlike blocks, and unlike transactions, of one id can be found.
const weakSha = `package sha

import (
	"bytes"
	"crypto/sha256"

	"plexus/api"
)

func Sum(parts ...[]byte) api.Hash {
	h := sha256.Sum256(bytes.Join(parts, nil))
	return api.Hash{h[0] & 15}
}

func Tag(name string, parts ...[]byte) api.Hash {
	return Sum(append([][]byte{{byte(len(name))}, []byte(name)}, parts...)...)
}
`

// No two unlike texts of one SHA-256 are known; so this test is run once more, over a weak hash.
func TestUnlikeOnesOfOneID(t *testing.T) {
	if sha.Sum([]byte("abc"))[1] == 0 {
		transactionsOfOneID(t)
		blocksOfOneID(t)
		return
	}
	told, err := exec.Command("go", "test", "-count=1", "-v", "-run=^TestUnlikeOnesOfOneID$", "-overlay="+weakOverlay(t), ".").CombinedOutput()
	if err != nil || !bytes.Contains(told, []byte("--- PASS: TestUnlikeOnesOfOneID")) {
		t.Fatalf("%v\n%s", err, told)
	}
}

// weakOverlay lays weakSha over sha.go, and nothing over layer 2's other files.
func weakOverlay(t *testing.T) string {
	t.Helper()
	layer, err := filepath.Abs("../sha")
	if err != nil {
		t.Fatal(err)
	}
	files, err := filepath.Glob(filepath.Join(layer, "*.go"))
	if err != nil || len(files) == 0 {
		t.Fatal(files, err)
	}
	dir := t.TempDir()
	weak, overlay := filepath.Join(dir, "weak.go"), filepath.Join(dir, "overlay.json")
	replace := map[string]string{}
	for _, f := range files {
		replace[f] = ""
	}
	replace[filepath.Join(layer, "sha.go")] = weak
	told, err := json.Marshal(map[string]any{"Replace": replace})
	if err != nil {
		t.Fatal(err)
	}
	if err := os.WriteFile(weak, []byte(weakSha), 0o600); err != nil {
		t.Fatal(err)
	}
	if err := os.WriteFile(overlay, told, 0o600); err != nil {
		t.Fatal(err)
	}
	return overlay
}

// It is ids that are held against each other, not transactions.
func transactionsOfOneID(t *testing.T) {
	met := map[api.Errno]int{}
	for i := range 40 {
		for j := range i {
			b := api.Block{Txs: []api.Tx{pay(i), pay(j)}}
			b.Header.Root = block.Root(b.Txs...)
			want := api.OK
			if tx.ID(pay(i)) == tx.ID(pay(j)) {
				want = api.ErrExists
			}
			if e := block.Check(b); e != want {
				t.Fatalf("%v: %v, want %v", b, e, want)
			}
			met[want]++
		}
	}
	if met[api.OK] < 20 || met[api.ErrExists] < 20 {
		t.Errorf("too few to tell: %v", met)
	}
}

// Two unlike blocks with their form, and one id, are two unlike texts with one hash.
func blocksOfOneID(t *testing.T) {
	chance := rand.New(rand.NewSource(7))
	kinds := map[string]int{}
	found := map[api.Hash][]api.Block{}
	for range 2000 {
		b := api.Block{Header: api.Header{Nonce: uint64(chance.Intn(3))}}
		for _, n := range chance.Perm(30)[:chance.Intn(4)] {
			b.Txs = append(b.Txs, pay(n))
		}
		b.Header.Root = block.Root(b.Txs...)
		if block.Check(b) != api.OK {
			continue
		}
		id := block.ID(b.Header)
		for _, other := range found[id] {
			if block.Same(b, other) {
				continue
			}
			x, y := unlikeTexts(t, b, other)
			if x == y || sha.Sum([]byte(x)) != sha.Sum([]byte(y)) {
				t.Fatalf("%v and %v: %q and %q", b, other, x, y)
			}
			kinds[x[1:1+x[0]]]++
		}
		found[id] = append(found[id], b)
	}
	for _, kind := range []string{"block", "root", "knot", "leaf", "tx"} {
		if kinds[kind] < 20 {
			t.Errorf("%s: met %d times alone", kind, kinds[kind])
		}
	}
	t.Log(kinds)
}

// unlikeTexts goes down from the id of two blocks to the first texts that are unlike.
func unlikeTexts(t *testing.T, a, b api.Block) (string, string) {
	t.Helper()
	x, y := "\x05block"+string(rawHeader(a.Header)), "\x05block"+string(rawHeader(b.Header))
	if x != y {
		return x, y
	}
	if len(a.Txs) < len(b.Txs) {
		a, b = b, a
	}
	idsA, idsB := txIDs(a), txIDs(b)
	for n, id := range idsA {
		p, _ := merkle.Path(n, idsA...)
		if x, y, is := merkle.Collide(id, p, idsB...); is {
			return string(x), string(y)
		}
	}
	if !slices.Equal(idsA, idsB) {
		t.Fatalf("%v and %v: their ids are unlike, and no texts tell why", a, b)
	}
	for n := range a.Txs {
		x, y := "\x02tx"+string(rawTx(a.Txs[n])), "\x02tx"+string(rawTx(b.Txs[n]))
		if x != y {
			return x, y
		}
	}
	return "", ""
}

func txIDs(b api.Block) []api.Hash {
	var ids []api.Hash
	for _, x := range b.Txs {
		ids = append(ids, tx.ID(x))
	}
	return ids
}
