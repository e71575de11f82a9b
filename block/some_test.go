package block_test

import (
	"bytes"
	"crypto/sha256"
	"encoding/binary"
	"math/rand"
	"slices"
	"testing"

	"plexus/api"
	"plexus/tx"
)

// The limits, as the chapter tells them.
const (
	maxNames = 255
	maxTxs   = 200
)

func TestLimits(t *testing.T) {
	if api.MaxNames != maxNames || api.MaxTxs != maxTxs {
		t.Error("a limit is another one")
	}
}

// headed answers a header of so many parents, all unlike.
func headed(parents int) api.Header {
	h := api.Header{
		Root:     api.Hash{1, 31: 2},
		Accepted: api.Hash{3, 31: 4},
		Coins:    api.Hash{5, 31: 6},
		Miner:    api.Hash{7, 31: 8},
		Nonce:    uint64(1000 + parents),
	}
	for i := range parents {
		h.Parents = append(h.Parents, api.Hash{byte(i >> 8), byte(i), 31: 9})
	}
	return h
}

// pay answers the n-th of transactions that may be, and are all unlike.
func pay(n int) api.Tx {
	in := api.Input{Out: api.Outpoint{ID: api.Hash{10, 31: 11}, N: uint32(n)}, Witness: bytes.Repeat([]byte{byte(n + 1)}, n%3)}
	out := api.Output{Amount: uint64(n + 1), Lock: api.Hash{12, 31: 13}}
	return api.Tx{Inputs: []api.Input{in}, Outputs: []api.Output{out}, Nonce: uint64(n)}
}

// some answers a block that has its form, if its numbers of parents and transactions may be.
func some(parents, txs int) api.Block {
	b := api.Block{Header: headed(parents)}
	for n := range txs {
		b.Txs = append(b.Txs, pay(n))
	}
	return rooted(b)
}

// with answers such a block, changed, with the root of what it then has.
func with(parents, txs int, change func(b *api.Block)) api.Block {
	b := some(parents, txs)
	change(&b)
	return rooted(b)
}

// rooted answers b with the root of its transactions, by the test's own hand.
func rooted(b api.Block) api.Block {
	b.Header.Root = wantRoot(b.Txs)
	return b
}

// tagged is a hash under a name, by the library's SHA-256.
func tagged(name string, parts ...[]byte) api.Hash {
	return sha256.Sum256(slices.Concat([]byte{byte(len(name))}, []byte(name), bytes.Join(parts, nil)))
}

func wantTxID(x api.Tx) api.Hash {
	if !tx.May(x) {
		return api.Hash{}
	}
	return tagged("tx", rawTx(x))
}

func wantTxIDs(l []api.Tx) []api.Hash {
	var ids []api.Hash
	for _, x := range l {
		ids = append(ids, wantTxID(x))
	}
	return ids
}

func wantRoot(l []api.Tx) api.Hash {
	var row []api.Hash
	for _, id := range wantTxIDs(l) {
		row = append(row, tagged("leaf", id[:]))
	}
	for len(row) > 1 {
		var next []api.Hash
		for pair := range slices.Chunk(row, 2) {
			if len(pair) == 2 {
				pair[0] = tagged("knot", pair[0][:], pair[1][:])
			}
			next = append(next, pair[0])
		}
		row = next
	}
	var top []byte
	for _, h := range row {
		top = append(top, h[:]...)
	}
	return tagged("root", binary.LittleEndian.AppendUint64(nil, uint64(len(l))), top)
}

// rawTx is a transaction's bytes, as chapter 5 tells them, whether it may be or not.
func rawTx(x api.Tx) []byte {
	b := binary.LittleEndian.AppendUint16(nil, uint16(len(x.Inputs)))
	for _, in := range x.Inputs {
		b = binary.LittleEndian.AppendUint32(append(b, in.Out.ID[:]...), in.Out.N)
		b = appendBlob(b, in.Witness)
	}
	b = binary.LittleEndian.AppendUint16(b, uint16(len(x.Outputs)))
	for _, out := range x.Outputs {
		b = append(binary.LittleEndian.AppendUint64(b, out.Amount), out.Lock[:]...)
	}
	return binary.LittleEndian.AppendUint64(b, x.Nonce)
}

func appendBlob(b, blob []byte) []byte {
	return append(binary.LittleEndian.AppendUint32(b, uint32(len(blob))), blob...)
}

// rawHeader is the chapter's bytes of any header.
func rawHeader(h api.Header) []byte {
	b := binary.LittleEndian.AppendUint16(nil, uint16(len(h.Parents)))
	for _, parent := range h.Parents {
		b = append(b, parent[:]...)
	}
	for _, hash := range []api.Hash{h.Root, h.Accepted, h.Coins, h.Miner} {
		b = append(b, hash[:]...)
	}
	return binary.LittleEndian.AppendUint64(b, h.Nonce)
}

// raw is the chapter's bytes of any block, whether it has its form or not.
func raw(b api.Block) []byte {
	var txs [][]byte
	for _, x := range b.Txs {
		txs = append(txs, rawTx(x))
	}
	return rawOf(rawHeader(b.Header), txs...)
}

// rawOf puts a header's bytes and those of transactions together, whatever they are.
func rawOf(header []byte, txs ...[]byte) []byte {
	b := binary.LittleEndian.AppendUint16(appendBlob(nil, header), uint16(len(txs)))
	for _, own := range txs {
		b = appendBlob(b, own)
	}
	return b
}

// again answers a block in new memory, by the test's own hand.
func again(b api.Block) api.Block {
	c := b
	c.Header.Parents = append([]api.Hash(nil), b.Header.Parents...)
	c.Txs = nil
	for _, x := range b.Txs {
		y := api.Tx{Outputs: append([]api.Output(nil), x.Outputs...), Nonce: x.Nonce}
		for _, in := range x.Inputs {
			y.Inputs = append(y.Inputs, api.Input{Out: in.Out, Witness: append([]byte(nil), in.Witness...)})
		}
		c.Txs = append(c.Txs, y)
	}
	return c
}

// unchanged does what it is told, and asks whether b, which was handed in, is as it was.
func unchanged(t *testing.T, b api.Block, do func()) {
	t.Helper()
	own := raw(b)
	do()
	if !bytes.Equal(own, raw(b)) {
		t.Errorf("what was handed in was changed: %v", b)
	}
}

// great is a transaction of all that one may have.
func great(n int) api.Tx {
	x := api.Tx{Nonce: 1<<64 - 1}
	for i := range api.MaxInputs {
		out := api.Outpoint{ID: api.Hash{byte(n)}, N: uint32(i)}
		x.Inputs = append(x.Inputs, api.Input{Out: out, Witness: bytes.Repeat([]byte{byte(i)}, api.MaxWitness)})
	}
	for i := range api.MaxOutputs {
		x.Outputs = append(x.Outputs, api.Output{Amount: api.MaxMoney / api.MaxOutputs, Lock: api.Hash{byte(i)}})
	}
	return x
}

// edges are blocks that have their form, but just so.
func edges() []api.Block {
	return []api.Block{
		rooted(api.Block{}),
		some(0, 0),
		some(1, 0),
		some(0, 1),
		some(1, 1),
		some(2, 2),
		some(3, 3),
		some(2, 7),
		some(254, 1),
		some(255, 0),
		some(1, 199),
		some(0, 200),
		some(255, 200),
		with(2, 1, func(b *api.Block) { b.Header.Parents[1] = b.Header.Parents[0] }),
		with(3, 1, func(b *api.Block) { slices.Reverse(b.Header.Parents) }),
		with(2, 0, func(b *api.Block) { clear(b.Header.Parents) }),
		with(1, 2, func(b *api.Block) { b.Txs[1] = great(0) }),
		with(1, 3, func(b *api.Block) { b.Header.Nonce = 1<<64 - 1 }),
		with(1, 3, func(b *api.Block) { b.Header = api.Header{} }),
		// What a transaction alone can't tell: these are alike but in one thing.
		with(1, 2, func(b *api.Block) { b.Txs[1] = b.Txs[0]; b.Txs[1].Nonce++ }),
		with(1, 2, func(b *api.Block) { b.Txs[0], b.Txs[1] = b.Txs[1], b.Txs[0] }),
	}
}

// Transactions that may not be: for their form, and for their amounts.
func badForm() api.Tx {
	x := pay(300)
	x.Inputs = append(x.Inputs, x.Inputs[0])
	return x
}

func badAmounts() api.Tx {
	x := pay(301)
	x.Outputs[0].Amount = api.MaxMoney + 1
	return x
}

type wrongOne struct {
	b api.Block
	e api.Errno
}

// wrong are blocks that have not their form, and why.
func wrong() map[string]wrongOne {
	another := some(1, 3)
	another.Header.Root[31] ^= 128
	return map[string]wrongOne{
		"nothing, of no root":          {api.Block{}, api.ErrRoot},
		"256 parents":                  {some(256, 2), api.ErrArg},
		"257 parents, no transactions": {some(257, 0), api.ErrArg},
		"a transaction of nothing":     {with(1, 1, func(b *api.Block) { b.Txs[0] = api.Tx{} }), api.ErrArg},
		"a transaction's form":         {with(1, 3, func(b *api.Block) { b.Txs[2] = badForm() }), api.ErrArg},
		"a transaction's amounts":      {with(1, 3, func(b *api.Block) { b.Txs[0] = badAmounts() }), api.ErrArg},
		"an output of nothing":         {with(1, 3, func(b *api.Block) { b.Txs[1].Outputs[0].Amount = 0 }), api.ErrArg},
		"201 transactions":             {some(1, 201), api.ErrFull},
		"300 transactions":             {some(0, 300), api.ErrFull},
		"two of one id":                {with(1, 2, func(b *api.Block) { b.Txs[1] = b.Txs[0] }), api.ErrExists},
		"two of one id, apart":         {with(1, 5, func(b *api.Block) { b.Txs[4] = b.Txs[0] }), api.ErrExists},
		"a root's last bit":            {another, api.ErrRoot},
	}
}

// anyBlock is now one that has its form, now one that has not, for one thing or for several.
func anyBlock(chance *rand.Rand) api.Block {
	b := some(anyCount(chance, maxNames), anyCount(chance, maxTxs))
	b.Header.Nonce = chance.Uint64() >> chance.Intn(64)
	chance.Read(b.Header.Accepted[:])
	chance.Shuffle(len(b.Txs), func(i, j int) { b.Txs[i], b.Txs[j] = b.Txs[j], b.Txs[i] })
	if n := len(b.Txs); n > 0 {
		switch at := chance.Intn(n); chance.Intn(6) {
		case 0:
			b.Txs[at] = pay(chance.Intn(n))
		case 1:
			b.Txs[at] = []api.Tx{badForm(), badAmounts()}[chance.Intn(2)]
		case 2:
			b.Txs[at].Nonce = chance.Uint64()
		}
	}
	b = rooted(b)
	if chance.Intn(5) == 0 {
		b.Header.Root[chance.Intn(32)] ^= 1 << chance.Intn(8)
	}
	return b
}

func anyCount(chance *rand.Rand, limit int) int {
	if chance.Intn(12) == 0 {
		return limit - 1 + chance.Intn(3)
	}
	return chance.Intn(6)
}

// manyWithTheirForm are blocks that have their form, the edges among them.
func manyWithTheirForm(seed int64, n int) []api.Block {
	chance := rand.New(rand.NewSource(seed))
	l := edges()
	for len(l) < n {
		if b := anyBlock(chance); wantCheck(b) == api.OK {
			l = append(l, b)
		}
	}
	return l
}

// unlikeHeaders answers headers that are all unlike h, each in one thing alone.
func unlikeHeaders(h api.Header) []api.Header {
	var l []api.Header
	put := func(change func(g *api.Header)) {
		g := again(api.Block{Header: h}).Header
		change(&g)
		l = append(l, g)
	}
	for bit := range 256 {
		at, mask := bit/8, byte(1)<<(bit%8)
		put(func(g *api.Header) { g.Root[at] ^= mask })
		put(func(g *api.Header) { g.Accepted[at] ^= mask })
		put(func(g *api.Header) { g.Coins[at] ^= mask })
		put(func(g *api.Header) { g.Miner[at] ^= mask })
	}
	for bit := range 64 {
		put(func(g *api.Header) { g.Nonce ^= 1 << bit })
	}
	for i := range h.Parents {
		for at := range h.Parents[i] {
			put(func(g *api.Header) { g.Parents[i][at] ^= 1 })
		}
		put(func(g *api.Header) { g.Parents = g.Parents[:i] })
		put(func(g *api.Header) { g.Parents = slices.Delete(g.Parents, i, i+1) })
		put(func(g *api.Header) { g.Parents = slices.Insert(g.Parents, i, api.Hash{14}) })
		put(func(g *api.Header) { g.Parents = append(g.Parents, g.Parents[i]) })
		if i > 0 {
			put(func(g *api.Header) { g.Parents[i-1], g.Parents[i] = g.Parents[i], g.Parents[i-1] })
		}
	}
	put(func(g *api.Header) { g.Parents = append(g.Parents, api.Hash{}) })
	put(func(g *api.Header) { g.Root, g.Accepted = g.Accepted, g.Root })
	put(func(g *api.Header) { g.Accepted, g.Coins = g.Coins, g.Accepted })
	put(func(g *api.Header) { g.Coins, g.Miner = g.Miner, g.Coins })
	own := string(rawHeader(h))
	return slices.DeleteFunc(l, func(g api.Header) bool { return string(rawHeader(g)) == own })
}

// unlikeTxs answers blocks of b's header that are all unlike b, each in one thing of its transactions.
func unlikeTxs(b api.Block) []api.Block {
	var l []api.Block
	put := func(change func(c *api.Block)) {
		c := again(b)
		change(&c)
		l = append(l, c)
	}
	for i := range b.Txs {
		put(func(c *api.Block) { c.Txs[i].Nonce ^= 1 << 63 })
		put(func(c *api.Block) { c.Txs[i].Inputs[0].Out.N ^= 1 << 31 })
		put(func(c *api.Block) { c.Txs[i].Inputs[0].Out.ID[31] ^= 1 })
		put(func(c *api.Block) { c.Txs[i].Inputs[0].Witness = append(c.Txs[i].Inputs[0].Witness, 0) })
		put(func(c *api.Block) { c.Txs[i].Inputs = append(c.Txs[i].Inputs, api.Input{}) })
		put(func(c *api.Block) { c.Txs[i].Outputs[0].Amount ^= 1 << 40 })
		put(func(c *api.Block) { c.Txs[i].Outputs[0].Lock[31] ^= 1 })
		put(func(c *api.Block) { c.Txs[i].Outputs = append(c.Txs[i].Outputs, c.Txs[i].Outputs[0]) })
		put(func(c *api.Block) { c.Txs = c.Txs[:i] })
		put(func(c *api.Block) { c.Txs = slices.Delete(c.Txs, i, i+1) })
		put(func(c *api.Block) { c.Txs = slices.Insert(c.Txs, i, pay(400)) })
		put(func(c *api.Block) { c.Txs = append(c.Txs, pay(i)) })
		if i > 0 {
			put(func(c *api.Block) { c.Txs[i-1], c.Txs[i] = c.Txs[i], c.Txs[i-1] })
		}
	}
	put(func(c *api.Block) { c.Txs = append(c.Txs, pay(401)) })
	return l
}
