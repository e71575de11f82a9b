package block_test

import (
	"bytes"
	"encoding/binary"
	"math/rand"
	"testing"

	"plexus/api"
	"plexus/block"
)

// headers are such as may be.
func headers() []api.Header {
	l := []api.Header{{}, {Parents: []api.Hash{}}, {Parents: make([]api.Hash, 255)}, {Nonce: 1<<64 - 1}}
	for _, parents := range []int{0, 1, 2, 3, 7, 128, 254, 255} {
		l = append(l, headed(parents))
	}
	for _, b := range edges() {
		l = append(l, b.Header)
	}
	return l
}

func isZeroHeader(h api.Header) bool {
	return h.Parents == nil && h.Root == (api.Hash{}) && h.Accepted == (api.Hash{}) &&
		h.Coins == (api.Hash{}) && h.Miner == (api.Hash{}) && h.Nonce == 0
}

// refusedHeader asks HeaderOf of what it may not take.
func refusedHeader(t *testing.T, name string, b []byte) {
	t.Helper()
	given := bytes.Clone(b)
	if h, e := block.HeaderOf(b); e != api.ErrBytes || !isZeroHeader(h) {
		t.Errorf("%s: %v, %v", name, h, e)
	}
	if !bytes.Equal(given, b) {
		t.Errorf("%s: the bytes that were handed in were changed", name)
	}
}

func TestHowManyBytesAHeaderHas(t *testing.T) {
	if b, e := block.HeaderBytes(headed(1)); len(b) != 170 || e != api.OK {
		t.Errorf("one parent: %d, %v", len(b), e)
	}
	for parents := range 256 {
		if b, e := block.HeaderBytes(headed(parents)); len(b) != 138+32*parents || e != api.OK {
			t.Errorf("%d parents: %d, %v", parents, len(b), e)
		}
	}
}

func TestHeaderBytesOneByOne(t *testing.T) {
	noughts := make([]byte, 30)
	h := api.Header{
		Parents:  []api.Hash{{9, 31: 8}, {7, 31: 6}, {9, 31: 8}},
		Root:     api.Hash{10, 31: 11},
		Accepted: api.Hash{12, 31: 13},
		Coins:    api.Hash{14, 31: 15},
		Miner:    api.Hash{16, 31: 17},
		Nonce:    0x8877665544332211,
	}
	want := []byte{3, 0}
	for _, ends := range [][2]byte{{9, 8}, {7, 6}, {9, 8}, {10, 11}, {12, 13}, {14, 15}, {16, 17}} {
		want = append(append(append(want, ends[0]), noughts...), ends[1])
	}
	want = append(want, 0x11, 0x22, 0x33, 0x44, 0x55, 0x66, 0x77, 0x88)
	if b, e := block.HeaderBytes(h); !bytes.Equal(b, want) || e != api.OK {
		t.Errorf("%v, %v, want %v", b, e, want)
	}
	if g, e := block.HeaderOf(want); !bytes.Equal(rawHeader(g), rawHeader(h)) || e != api.OK {
		t.Errorf("%v, %v, want %v", g, e, h)
	}
}

func TestHeadersAtEdges(t *testing.T) {
	for _, h := range headers() {
		own := rawHeader(h)
		b, e := block.HeaderBytes(h)
		if !bytes.Equal(b, own) || e != api.OK {
			t.Fatalf("%v: %v, %v", h, b, e)
		}
		if g, e := block.HeaderOf(b); !bytes.Equal(rawHeader(g), own) || e != api.OK || !bytes.Equal(b, own) {
			t.Fatalf("%v is read as %v, %v", h, g, e)
		}
		if id := block.ID(h); id != tagged("block", own) {
			t.Errorf("%v: the id is %x", h, id)
		}
		if !bytes.Equal(rawHeader(h), own) {
			t.Errorf("what was handed in was changed: %v", h)
		}
	}
}

// A list without parents is read as none.
func TestNoParents(t *testing.T) {
	for _, h := range []api.Header{{}, {Parents: []api.Hash{}}} {
		b, e := block.HeaderBytes(h)
		if !bytes.Equal(b, make([]byte, 138)) || e != api.OK {
			t.Errorf("%v, %v", b, e)
		}
		if g, e := block.HeaderOf(b); !isZeroHeader(g) || e != api.OK {
			t.Errorf("%v, %v", g, e)
		}
	}
}

func TestTooManyParents(t *testing.T) {
	for _, parents := range []int{256, 257, 300, 511, 512, 65535, 65536, 65537, 65791, 65792} {
		h := headed(parents)
		if b, e := block.HeaderBytes(h); b != nil || e != api.ErrArg {
			t.Errorf("%d parents: %v, %v", parents, b, e)
		}
		if id := block.ID(h); id != (api.Hash{}) {
			t.Errorf("%d parents: the id is %x", parents, id)
		}
		if parents < 65536 {
			refusedHeader(t, "too many parents", rawHeader(h))
		}
	}
}

func TestHeaderBytesAreNewMemory(t *testing.T) {
	h := headed(3)
	a, _ := block.HeaderBytes(h)
	b, _ := block.HeaderBytes(h)
	clear(a[:cap(a)])
	if !bytes.Equal(b, rawHeader(headed(3))) || !bytes.Equal(rawHeader(h), b) {
		t.Error("an answer shares memory")
	}
	g, _ := block.HeaderOf(b)
	clear(b)
	if !bytes.Equal(rawHeader(g), rawHeader(h)) {
		t.Error("the header shares the bytes")
	}
}

func TestHeaderOfBytesThatAreCut(t *testing.T) {
	refusedHeader(t, "nil", nil)
	refusedHeader(t, "no bytes", []byte{})
	for _, parents := range []int{0, 1, 2, 3, 255} {
		b := rawHeader(headed(parents))
		for n := range b {
			refusedHeader(t, "cut behind", b[:n])
			if n > 0 {
				refusedHeader(t, "cut ahead", b[n:])
			}
		}
		for _, more := range [][]byte{{0}, {1}, {255}, {0, 0}, make([]byte, 8), make([]byte, 32), b} {
			refusedHeader(t, "more behind", append(bytes.Clone(b), more...))
		}
		refusedHeader(t, "one more ahead", append([]byte{0}, b...))
	}
}

func TestHeaderOfOtherCounts(t *testing.T) {
	for _, parents := range []int{0, 1, 2, 5, 254, 255} {
		b := rawHeader(headed(parents))
		for n := range 1 << 16 {
			if n > 600 && n%256 > 3 && n < 65500 || n == parents {
				continue
			}
			binary.LittleEndian.PutUint16(b, uint16(n))
			refusedHeader(t, "another count", b)
		}
		if t.Failed() {
			t.Fatalf("of %d parents", parents)
		}
	}
	// As many as it tells are there, but more than may be.
	for _, n := range []int{256, 257, 258, 512, 513, 32768, 65535} {
		b := make([]byte, 138+32*n)
		binary.LittleEndian.PutUint16(b, uint16(n))
		refusedHeader(t, "more than may be", b)
	}
}

// Bytes of one parent's length, whatever they are, are a header's; with another count they are none's.
func TestHeaderOfAnyBytes(t *testing.T) {
	chance := rand.New(rand.NewSource(1))
	for range 5000 {
		b := make([]byte, chance.Intn(300))
		chance.Read(b)
		if len(b) > 1 && chance.Intn(4) > 0 {
			b[0], b[1] = byte(chance.Intn(4)), 0
		}
		if len(b) > 1 && len(b) == 138+32*int(binary.LittleEndian.Uint16(b)) {
			continue
		}
		refusedHeader(t, "any bytes", b)
	}
	for range 2000 {
		parents := chance.Intn(5)
		b := make([]byte, 138+32*parents)
		chance.Read(b)
		b[0], b[1] = byte(parents), 0
		h, e := block.HeaderOf(b)
		if e != api.OK || !bytes.Equal(rawHeader(h), b) || len(h.Parents) != parents {
			t.Fatalf("%v: %v, %v", b, h, e)
		}
		if again, e := block.HeaderBytes(h); !bytes.Equal(again, b) || e != api.OK {
			t.Fatalf("%v: %v, %v", h, again, e)
		}
	}
}
