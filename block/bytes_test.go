package block_test

import (
	"bytes"
	"encoding/binary"
	"math/rand"
	"slices"
	"testing"

	"plexus/api"
	"plexus/block"
)

// refused asks Of of what it may not take.
func refused(t *testing.T, name string, b []byte) {
	t.Helper()
	given := bytes.Clone(b)
	if x, e := block.Of(b); e != api.ErrBytes || !isZeroHeader(x.Header) || x.Txs != nil {
		t.Errorf("%s: %v, %v", name, x, e)
	}
	if !bytes.Equal(given, b) {
		t.Errorf("%s: the bytes that were handed in were changed", name)
	}
}

// reads asks Of of a block's bytes.
func reads(t *testing.T, own []byte, b api.Block) {
	t.Helper()
	if got, e := block.Of(own); e != api.OK || !bytes.Equal(raw(got), raw(b)) {
		t.Errorf("%v is read as %v, %v", b, got, e)
	}
}

func TestBytesOneByOne(t *testing.T) {
	join := func(l ...[]byte) []byte { return bytes.Join(l, nil) }
	noughts := func(n int) []byte { return make([]byte, n) }
	// The two transactions are of layer 5's 92 bytes, and of one more.
	first := join([]byte{1, 0, 9}, noughts(31), []byte{2, 1, 0, 0, 0, 0, 0, 0, 1, 0, 5, 1, 0, 0, 0, 0, 0, 0, 8}, noughts(31), []byte{3, 0, 0, 0, 0, 0, 0, 0})
	second := join([]byte{1, 0, 9}, noughts(31), []byte{3, 1, 0, 0, 1, 0, 0, 0, 77, 1, 0, 6, 1, 0, 0, 0, 0, 0, 0, 8}, noughts(31), []byte{4, 0, 0, 0, 0, 0, 0, 0})
	b := api.Block{
		Header: api.Header{Parents: []api.Hash{{10}}, Accepted: api.Hash{11}, Coins: api.Hash{12}, Miner: api.Hash{13}, Nonce: 1 << 56},
		Txs: []api.Tx{
			{Inputs: []api.Input{{Out: api.Outpoint{ID: api.Hash{9}, N: 258}}}, Outputs: []api.Output{{Amount: 261, Lock: api.Hash{8}}}, Nonce: 3},
			{Inputs: []api.Input{{Out: api.Outpoint{ID: api.Hash{9}, N: 259}, Witness: []byte{77}}}, Outputs: []api.Output{{Amount: 262, Lock: api.Hash{8}}}, Nonce: 4},
		},
	}
	b = rooted(b)
	want := join(
		[]byte{170, 0, 0, 0},
		[]byte{1, 0, 10}, noughts(31), b.Header.Root[:], []byte{11}, noughts(31), []byte{12}, noughts(31), []byte{13}, noughts(31), []byte{0, 0, 0, 0, 0, 0, 0, 1},
		[]byte{2, 0},
		[]byte{92, 0, 0, 0}, first,
		[]byte{93, 0, 0, 0}, second,
	)
	if own, e := block.Bytes(b); !bytes.Equal(own, want) || e != api.OK {
		t.Errorf("%v, %v, want %v", own, e, want)
	}
	reads(t, want, b)
}

func TestBytesOfNoTransactions(t *testing.T) {
	for _, b := range []api.Block{some(0, 0), {Header: some(0, 0).Header, Txs: []api.Tx{}}} {
		own, e := block.Bytes(b)
		if len(own) != 4+138+2 || e != api.OK || !bytes.Equal(own, raw(b)) {
			t.Errorf("%v, %v", own, e)
		}
		if got, e := block.Of(own); got.Header.Parents != nil || got.Txs != nil || e != api.OK || got.Header.Root != block.Root() {
			t.Errorf("%v, %v", got, e)
		}
	}
}

func TestBytesAtEdges(t *testing.T) {
	for _, b := range edges() {
		unchanged(t, b, func() {
			own, e := block.Bytes(b)
			if !bytes.Equal(own, raw(b)) || e != api.OK {
				t.Errorf("%v: %v, %v", b, own, e)
			}
			reads(t, own, b)
		})
	}
}

func TestBytesOfTheGreatestBlock(t *testing.T) {
	b := with(255, 0, func(b *api.Block) {
		for n := range 200 {
			b.Txs = append(b.Txs, great(n))
		}
	})
	own, e := block.Bytes(b)
	if !bytes.Equal(own, raw(b)) || e != api.OK {
		t.Errorf("%d bytes, %v", len(own), e)
	}
	reads(t, own, b)
	refused(t, "one byte more", append(own, 0))
	refused(t, "one byte fewer", own[:len(own)-1])
}

func TestBytesAreNewMemory(t *testing.T) {
	b := some(2, 3)
	first, _ := block.Bytes(b)
	second, _ := block.Bytes(b)
	clear(first[:cap(first)])
	if !bytes.Equal(second, raw(some(2, 3))) || !bytes.Equal(raw(b), second) {
		t.Error("an answer shares memory")
	}
}

func TestWhatHasNotItsFormHasNoBytes(t *testing.T) {
	for name, c := range wrong() {
		unchanged(t, c.b, func() {
			if own, e := block.Bytes(c.b); own != nil || e != c.e {
				t.Errorf("%s: %v, %v, want %v", name, own, e, c.e)
			}
		})
		refused(t, name, raw(c.b))
	}
	for _, n := range []int{201, 202, 255, 256, 257, 456, 512, 1000, 65535} {
		refused(t, "more transactions than may be", raw(some(1, n)))
	}
	for _, n := range []int{256, 257, 300, 65535} {
		refused(t, "more parents than may be", raw(some(n, 1)))
	}
	for bit := range 256 {
		b := some(1, 2)
		b.Header.Root[bit/8] ^= 1 << (bit % 8)
		refused(t, "a root that differs in one bit", raw(b))
	}
}

func TestOfBytesThatAreCut(t *testing.T) {
	refused(t, "nil", nil)
	refused(t, "no bytes", []byte{})
	for _, b := range []api.Block{some(0, 0), some(1, 0), some(0, 1), some(1, 1), some(3, 4), edges()[15]} {
		own := raw(b)
		for n := range own {
			refused(t, "cut behind", own[:n])
			if n > 0 {
				refused(t, "cut ahead", own[n:])
			}
		}
		for _, more := range [][]byte{{0}, {1}, {255}, {0, 0}, make([]byte, 4), make([]byte, 92), rawTx(pay(9)), own} {
			refused(t, "more behind", append(bytes.Clone(own), more...))
		}
		refused(t, "one more ahead", append([]byte{0}, own...))
		refused(t, "a header alone", rawHeader(b.Header))
		refused(t, "a header as a blob alone", appendBlob(nil, rawHeader(b.Header)))
	}
}

func TestOfOtherCounts(t *testing.T) {
	for _, b := range []api.Block{some(1, 0), some(0, 1), some(1, 2), some(2, 5), some(0, 199), some(0, 200)} {
		own, at := raw(b), 4+len(rawHeader(b.Header))
		for n := range 1 << 16 {
			if n > 300 && n%256 > 2 && n < 65530 || n == len(b.Txs) {
				continue
			}
			binary.LittleEndian.PutUint16(own[at:], uint16(n))
			refused(t, "another count", own)
		}
		if t.Failed() {
			t.Fatalf("of %d transactions", len(b.Txs))
		}
	}
}

// A blob's length that is another one leaves a header or a transaction that is none.
func TestOfOtherLengths(t *testing.T) {
	b := some(2, 3)
	own := raw(b)
	places := []int{0}
	at := 4 + len(rawHeader(b.Header)) + 2
	for _, x := range b.Txs {
		places = append(places, at)
		at += 4 + len(rawTx(x))
	}
	for _, at := range places {
		length := binary.LittleEndian.Uint32(own[at:])
		for _, n := range []uint32{0, 1, 32, 92, length - 32, length - 1, length + 1, length + 4, length + 32, 1 << 16, 1<<24 - 1, 1 << 24, 1<<24 + 1, 1<<31 - 1, 1 << 31, 1<<32 - 1} {
			if n == length {
				continue
			}
			other := bytes.Clone(own)
			binary.LittleEndian.PutUint32(other[at:], n)
			refused(t, "another length", other)
		}
	}
}

func TestOfAHeaderThatIsNone(t *testing.T) {
	b := some(2, 1)
	header, x := rawHeader(b.Header), rawTx(b.Txs[0])
	reads(t, rawOf(header, x), b)
	fewer, more := bytes.Clone(header), bytes.Clone(header)
	fewer[0], more[0] = 1, 3
	for name, none := range map[string][]byte{
		"none":               {},
		"cut":                header[:len(header)-1],
		"one byte more":      append(bytes.Clone(header), 0),
		"one parent fewer":   fewer,
		"one parent more":    more,
		"256 parents":        rawHeader(with(256, 1, func(*api.Block) {}).Header),
		"a transaction":      x,
		"a header as a blob": appendBlob(nil, header),
		"no header's bytes":  make([]byte, 137),
		"2^24 noughts":       make([]byte, api.MaxBlob),
		"2^24 + 1 noughts":   make([]byte, api.MaxBlob+1),
	} {
		refused(t, name, rawOf(none, x))
	}
}

func TestOfATransactionThatIsNone(t *testing.T) {
	own := rawTx(pay(1))
	amounts, form := rawTx(badAmounts()), rawTx(badForm())
	for name, none := range map[string][]byte{
		"none":                 {},
		"cut":                  own[:len(own)-1],
		"one byte more":        append(bytes.Clone(own), 0),
		"amounts":              amounts,
		"form":                 form,
		"no inputs":            rawTx(api.Tx{Outputs: pay(1).Outputs}),
		"a header":             rawHeader(headed(1)),
		"a blob":               appendBlob(nil, own),
		"2^24 + 1 noughts":     make([]byte, api.MaxBlob+1),
		"a witness too long":   rawTx(api.Tx{Inputs: []api.Input{{Witness: make([]byte, 257)}}, Outputs: pay(1).Outputs}),
		"an output of noughts": rawTx(api.Tx{Inputs: pay(1).Inputs, Outputs: make([]api.Output, 1)}),
	} {
		for at := range 3 {
			others := []api.Tx{pay(10), pay(11), pay(12)}
			txs := [][]byte{rawTx(others[0]), rawTx(others[1]), rawTx(others[2])}
			txs[at] = none
			// Not even for who takes it as nothing, as the end of the list, or as one of the id noughts.
			left := append(slices.Clone(others[:at]), others[at+1:]...)
			others[at] = api.Tx{}
			for _, l := range [][]api.Tx{{}, others[:at], left, others} {
				refused(t, name, rawOf(rawHeader(rooted(api.Block{Header: headed(1), Txs: l}).Header), txs...))
				refused(t, name, rawOf(rawHeader(rooted(api.Block{Header: headed(1), Txs: l}).Header), txs[:at+1]...))
			}
		}
	}
}

// With a byte changed, they are another one's if it is the header's, but for its root; else none's.
func TestOfNearBytes(t *testing.T) {
	for _, b := range []api.Block{some(0, 0), some(1, 1), some(2, 3)} {
		own, taken := raw(b), 0
		for at := range own {
			for _, bits := range []byte{1, 2, 16, 128, 255} {
				other := bytes.Clone(own)
				other[at] ^= bits
				got, e := block.Of(other)
				if e == api.ErrBytes {
					refused(t, "a byte changed", other)
					continue
				}
				if e != api.OK || !bytes.Equal(raw(got), other) || wantCheck(got) != api.OK {
					t.Fatalf("%v: %v, %v", other, got, e)
				}
				taken++
			}
		}
		if parents := len(b.Header.Parents); taken != 5*(32*parents+3*32+8) {
			t.Errorf("%d parents: %d taken", parents, taken)
		}
	}
}

func TestOfAnyBytes(t *testing.T) {
	chance := rand.New(rand.NewSource(3))
	for range 20000 {
		b := make([]byte, chance.Intn(400))
		chance.Read(b)
		if len(b) > 150 && chance.Intn(4) > 0 {
			binary.LittleEndian.PutUint32(b, uint32(138))
			b[4], b[5], b[142], b[143] = 0, 0, byte(chance.Intn(3)), 0
		}
		refused(t, "any bytes", b)
	}
}

// The bytes of a block's form, put together of what may be, are read; whether Of takes them is what the chapter's words say.
func TestOfMany(t *testing.T) {
	chance := rand.New(rand.NewSource(4))
	for range 3000 {
		b := anyBlock(chance)
		if wantCheck(b) == api.OK {
			reads(t, raw(b), b)
		} else {
			refused(t, "one of many", raw(b))
		}
		if t.Failed() {
			t.Fatal(b)
		}
	}
}

// What Of answers shares nothing with the bytes, and no two of its lists share any.
func TestOfAnswersNewMemory(t *testing.T) {
	b := with(3, 4, func(b *api.Block) {
		for i := range b.Txs {
			b.Txs[i].Inputs[0].Witness = []byte{byte(i), 1, 2}
		}
	})
	own := raw(b)
	got, _ := block.Of(own)
	clear(own)
	if !bytes.Equal(raw(got), raw(b)) {
		t.Fatal("the bytes are shared")
	}
	for i := range got.Txs {
		scrubTx(got.Txs[i])
		scrubHashes(got.Header.Parents)
		for j := i + 1; j < len(got.Txs); j++ {
			if !bytes.Equal(rawTx(got.Txs[j]), rawTx(b.Txs[j])) {
				t.Fatalf("the transactions %d and %d share memory", i, j)
			}
		}
	}
	again, _ := block.Of(raw(b))
	if !slices.Equal(again.Header.Parents, b.Header.Parents) {
		t.Error("two answers share memory")
	}
}
