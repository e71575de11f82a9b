package sha_test

import (
	"bytes"
	"crypto/sha256"
	"math/rand"
	"slices"
	"strings"
	"testing"

	"plexus/api"
	"plexus/sha"
	"plexus/wire"
)

func row(n int) []byte {
	b := make([]byte, n)
	for i := range b {
		b[i] = byte(7*i + i/256 + 1)
	}
	return b
}

// want is the hash under a name, as the library comes to it.
func want(name string, parts ...[]byte) api.Hash {
	b := append([]byte{byte(len(name))}, name...)
	return sha256.Sum256(append(b, bytes.Join(parts, nil)...))
}

func TestSumExamples(t *testing.T) {
	for _, c := range []struct{ message, hash string }{
		{"", "e3b0c44298fc1c149afbf4c8996fb92427ae41e4649b934ca495991b7852b855"},
		{"abc", "ba7816bf8f01cfea414140de5dae2223b00361a396177a9cb410ff61f20015ad"},
		{"abcdbcdecdefdefgefghfghighijhijkijkljklmklmnlmnomnopnopq", "248d6a61d20638b8e5c026930c3e6039a33ce45964ff2167f6ecedd419db06c1"},
		{strings.Repeat("a", 1000000), "cdc76e5c9914fb9281a1c7e284d73e67f1809a48a497200e046d39ccc7112cd0"},
	} {
		if h := wire.HashText(sha.Sum([]byte(c.message))); h != c.hash {
			t.Errorf("%d bytes: %s, want %s", len(c.message), h, c.hash)
		}
	}
	if h := sha.Sum([]byte("abc")); !bytes.Equal(h[:4], []byte{186, 120, 22, 191}) {
		t.Error("abc:", h[:4])
	}
	if h := sha.Sum(); !bytes.Equal(h[:4], []byte{227, 176, 196, 66}) {
		t.Error("nothing:", h[:4])
	}
}

// All lengths up to some blocks: 55, 56, 63, 64 and 65 bytes are among them.
func TestSumOfAllLengths(t *testing.T) {
	for n := range 300 {
		for _, b := range [][]byte{row(n), make([]byte, n), bytes.Repeat([]byte{255}, n)} {
			if h := sha.Sum(b); h != sha256.Sum256(b) {
				t.Errorf("%d bytes: %x, want %x", n, h, sha256.Sum256(b))
			}
		}
	}
}

// The number of bits goes over 32 bits here; one piece of memory is handed in many times.
func TestSumOfLongMessage(t *testing.T) {
	if testing.Short() {
		t.Skip("some seconds")
	}
	part := row(1 << 24)
	parts := slices.Repeat([][]byte{part}, 33)
	hash := sha256.New()
	for _, p := range parts {
		hash.Write(p)
	}
	if h := sha.Sum(parts...); !bytes.Equal(h[:], hash.Sum(nil)) {
		t.Errorf("%x, want %x", h, hash.Sum(nil))
	}
}

func TestSumOfNothing(t *testing.T) {
	for i, parts := range [][][]byte{nil, {}, {nil}, {{}}, {nil, {}, nil}} {
		if h := sha.Sum(parts...); h != sha256.Sum256(nil) {
			t.Errorf("%d: %x", i, h)
		}
		if h := sha.Tag("", parts...); h != want("") {
			t.Errorf("%d: under no name: %x", i, h)
		}
		if h := sha.Tag("leaf", parts...); h != want("leaf") {
			t.Errorf("%d: under a name: %x", i, h)
		}
	}
}

func TestTag(t *testing.T) {
	for _, n := range []int{0, 1, 4, 54, 55, 62, 63, 64, 127, 128, 254, 255} {
		name := string(row(n))
		for _, parts := range [][][]byte{nil, {{}}, {{1}}, {row(32)}, {row(32), row(32)}, {row(3), nil, row(200)}} {
			if h := sha.Tag(name, parts...); h != want(name, parts...) {
				t.Errorf("name of %d, %d parts: %x", n, len(parts), h)
			}
		}
	}
	if h := sha.Tag("tx", []byte{5}, []byte{6}); h != sha.Sum([]byte{2, 't', 'x', 5, 6}) {
		t.Errorf("by bytes: %x", h)
	}
}

func TestTagOfLongName(t *testing.T) {
	long := string(row(1000))
	for _, n := range []int{256, 257, 510, 511, 512, 1000} {
		if h := sha.Tag(long[:n], []byte{5}); h != want(long[:255], []byte{5}) || h != sha.Tag(long[:255], []byte{5}) {
			t.Errorf("name of %d: %x", n, h)
		}
	}
	if sha.Tag(long[:254]) == sha.Tag(long[:255]) {
		t.Error("a name of 255 is cut off")
	}
	// The 255 bytes end inside a rune.
	runes := strings.Repeat("é", 200)
	if h := sha.Tag(runes); h != want(runes[:255]) {
		t.Errorf("inside a rune: %x", h)
	}
	if h := sha.Tag("\xff\x00\xfe"); h != want("\xff\x00\xfe") {
		t.Errorf("no text: %x", h)
	}
}

// cuts answers b in pieces, some of them empty.
func cuts(chance *rand.Rand, b []byte) [][]byte {
	var parts [][]byte
	for len(b) > 0 {
		n := chance.Intn(min(len(b), 1+chance.Intn(130)) + 1)
		parts = append(parts, b[:n])
		b = b[n:]
	}
	return parts
}

func TestCutsDoNotMatter(t *testing.T) {
	for _, n := range []int{1, 2, 55, 56, 63, 64, 65, 119, 120, 128, 129} {
		b := row(n)
		whole, under := sha.Sum(b), sha.Tag("knot", b)
		for i := range n + 1 {
			if sha.Sum(b[:i], b[i:]) != whole || sha.Sum(b[:i], nil, b[i:], []byte{}) != whole || sha.Tag("knot", b[:i], b[i:]) != under {
				t.Errorf("%d bytes, cut at %d", n, i)
			}
		}
		var single [][]byte
		for i := range b {
			single = append(single, b[i:i+1])
		}
		if sha.Sum(single...) != whole || sha.Tag("knot", single...) != under {
			t.Errorf("%d bytes, one by one", n)
		}
	}
	chance := rand.New(rand.NewSource(1))
	for round := range 500 {
		b := make([]byte, chance.Intn(1000))
		chance.Read(b)
		if h := sha.Sum(cuts(chance, b)...); h != sha256.Sum256(b) {
			t.Errorf("round %d: %x", round, h)
		}
		if h := sha.Tag("n", cuts(chance, b)...); h != want("n", b) {
			t.Errorf("round %d: under a name: %x", round, h)
		}
	}
}

// Unlike names have unlike hashed bytes, though name and parts together may be the same.
func TestNamesAreUnlike(t *testing.T) {
	all := string(row(300))
	seen := map[api.Hash]int{}
	for n := range 256 {
		seen[sha.Tag(all[:n], []byte(all[n:]))]++
	}
	seen[sha.Sum([]byte(all))]++
	if len(seen) != 257 {
		t.Errorf("where a name ends: %d unlike hashes of 257", len(seen))
	}
	clear(seen)
	for n := range 256 {
		seen[sha.Tag(strings.Repeat("a", n))]++
		seen[sha.Tag(strings.Repeat("a", n)+"b")]++
	}
	// The name of 256 is that of 255, without its b.
	if len(seen) != 511 || seen[sha.Tag(strings.Repeat("a", 255))] != 2 {
		t.Errorf("names: %d unlike hashes of 511", len(seen))
	}
	if sha.Tag("leaf", []byte{1}) == sha.Tag("knot", []byte{1}) || sha.Tag("a", []byte("b")) == sha.Tag("ab") || sha.Tag("") == sha.Sum() {
		t.Error("unlike names, one hash")
	}
}

func TestSumLeavesItsParts(t *testing.T) {
	memory := row(400)
	parts := [][]byte{memory[:10:10], memory[5:5], memory[10:30], memory[:200]}
	kept := slices.Clone(parts)
	first, under := sha.Sum(parts...), sha.Tag("x", parts...)
	if !bytes.Equal(memory, row(400)) {
		t.Error("a part is changed")
	}
	for i := range parts {
		if len(parts[i]) != len(kept[i]) || cap(parts[i]) != cap(kept[i]) || !bytes.Equal(parts[i], kept[i]) {
			t.Errorf("part %d is another one", i)
		}
	}
	room := make([][]byte, 1, 8)
	room[0] = []byte{1}
	behind := room[:8]
	behind[1] = []byte{9}
	sha.Tag("x", room...)
	if !bytes.Equal(behind[1], []byte{9}) || behind[2] != nil {
		t.Error("what lies behind the parts is changed")
	}
	if sha.Sum(parts...) != first || sha.Tag("x", parts...) != under {
		t.Error("the second time it is another hash")
	}
}

func FuzzSum(f *testing.F) {
	f.Add("leaf", []byte("abc"), []byte{}, uint(1))
	f.Fuzz(func(t *testing.T, name string, a, b []byte, at uint) {
		all := append(slices.Clone(a), b...)
		i := int(at % uint(len(all)+1))
		if h := sha.Sum(all[:i], all[i:]); h != sha256.Sum256(all) || h != sha.Sum(a, b) {
			t.Errorf("%x", h)
		}
		if h := sha.Tag(name, a, b); h != want(name[:min(len(name), 255)], a, b) {
			t.Errorf("under %q: %x", name, h)
		}
	})
}
