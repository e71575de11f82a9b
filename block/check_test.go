package block_test

import (
	"math/rand"
	"slices"
	"testing"

	"plexus/api"
	"plexus/block"
	"plexus/tx"
)

// wantCheck is the chapter's words, one thing after the other.
func wantCheck(b api.Block) api.Errno {
	if len(b.Header.Parents) > maxNames {
		return api.ErrArg
	}
	for _, x := range b.Txs {
		if !tx.May(x) {
			return api.ErrArg
		}
	}
	if len(b.Txs) > maxTxs {
		return api.ErrFull
	}
	ids := wantTxIDs(b.Txs)
	for i := range ids {
		if slices.Contains(ids[:i], ids[i]) {
			return api.ErrExists
		}
	}
	if b.Header.Root != wantRoot(b.Txs) {
		return api.ErrRoot
	}
	return api.OK
}

// checks asks Check, and whether Bytes tells the same.
func checks(t *testing.T, name string, b api.Block, want api.Errno) {
	t.Helper()
	if w := wantCheck(b); w != want {
		t.Errorf("%s: the test itself wants %v", name, w)
	}
	unchanged(t, b, func() {
		if e := block.Check(b); e != want {
			t.Errorf("%s: %v, want %v", name, e, want)
		}
		if own, e := block.Bytes(b); e != want || (len(own) > 0) != (want == api.OK) {
			t.Errorf("%s: %v, %v, want %v", name, own, e, want)
		}
	})
}

func TestRootOneByOne(t *testing.T) {
	a, b, c := tx.ID(pay(0)), tx.ID(pay(1)), tx.ID(pay(2))
	la, lb, lc := tagged("leaf", a[:]), tagged("leaf", b[:]), tagged("leaf", c[:])
	ab := tagged("knot", la[:], lb[:])
	abc := tagged("knot", ab[:], lc[:])
	count := func(n byte) []byte { return []byte{n, 0, 0, 0, 0, 0, 0, 0} }
	for _, r := range []struct {
		got, want api.Hash
	}{
		{block.Root(), tagged("root", count(0))},
		{block.Root([]api.Tx{}...), tagged("root", count(0))},
		{block.Root(pay(0)), tagged("root", count(1), la[:])},
		{block.Root(pay(0), pay(1)), tagged("root", count(2), ab[:])},
		{block.Root(pay(0), pay(1), pay(2)), tagged("root", count(3), abc[:])},
	} {
		if r.got != r.want {
			t.Errorf("%x, want %x", r.got, r.want)
		}
	}
}

func TestRootOfMany(t *testing.T) {
	for _, n := range []int{0, 1, 2, 3, 4, 5, 7, 8, 9, 63, 64, 65, 199, 200, 201, 300} {
		b := some(1, n)
		unchanged(t, b, func() {
			if root := block.Root(b.Txs...); root != b.Header.Root {
				t.Errorf("%d transactions: %x, want %x", n, root, b.Header.Root)
			}
		})
	}
}

// A root is of any transactions: of two of one id, and of those that may not be, whose ids are noughts.
func TestRootOfWhatABlockMayNotHave(t *testing.T) {
	for _, l := range [][]api.Tx{
		{pay(0), pay(0)},
		{pay(0), pay(1), pay(0)},
		{{}},
		{badForm()},
		{badAmounts(), pay(1)},
		{pay(1), badForm(), badAmounts()},
	} {
		if root := block.Root(l...); root != wantRoot(l) {
			t.Errorf("%v: %x, want %x", l, root, wantRoot(l))
		}
	}
	if block.Root(badForm()) != block.Root(badAmounts()) {
		t.Error("the ids of those that may not be are not noughts")
	}
}

func TestRootsAreUnlike(t *testing.T) {
	seen := map[api.Hash][]api.Tx{}
	for _, l := range [][]api.Tx{{}, {pay(0)}, {pay(1)}, {pay(0), pay(1)}, {pay(1), pay(0)}, {pay(0), pay(0)}, {pay(0), pay(1), pay(2)}, {pay(0), pay(1), pay(2), pay(2)}} {
		root := block.Root(l...)
		if other, is := seen[root]; is {
			t.Errorf("%v and %v have one root", l, other)
		}
		seen[root] = l
	}
}

func TestBlocksWithTheirForm(t *testing.T) {
	for _, b := range edges() {
		checks(t, "an edge", b, api.OK)
	}
	for _, parents := range []int{0, 1, 2, 255} {
		for _, txs := range []int{0, 1, 2, 3, 4, 5, 199, 200} {
			checks(t, "counts", some(parents, txs), api.OK)
		}
	}
	most := with(255, 0, func(b *api.Block) {
		for n := range 200 {
			b.Txs = append(b.Txs, great(n))
		}
	})
	checks(t, "all that may be", most, api.OK)
}

// What a header says of other things than its transactions is nothing that is asked here.
func TestClaimsAreNotAsked(t *testing.T) {
	for _, h := range unlikeHeaders(headed(2)) {
		checks(t, "another header", rooted(api.Block{Header: h, Txs: []api.Tx{pay(0), pay(1)}}), api.OK)
	}
}

func TestBlocksWithoutTheirForm(t *testing.T) {
	for name, c := range wrong() {
		checks(t, name, c.b, c.e)
	}
}

func TestParents(t *testing.T) {
	for _, parents := range []int{256, 257, 300, 511, 512, 65535, 65536, 65537} {
		checks(t, "too many", some(parents, 0), api.ErrArg)
		checks(t, "too many", some(parents, 3), api.ErrArg)
		same := with(0, 1, func(b *api.Block) { b.Header.Parents = make([]api.Hash, parents) })
		checks(t, "too many that are the same", same, api.ErrArg)
	}
	for _, parents := range []int{2, 3, 254, 255} {
		same := with(0, 1, func(b *api.Block) { b.Header.Parents = make([]api.Hash, parents) })
		checks(t, "parents that are the same", same, api.OK)
	}
}

func TestATransactionThatMayNotBe(t *testing.T) {
	for _, bad := range []api.Tx{{}, badForm(), badAmounts()} {
		for _, n := range []int{1, 2, 3, 7, 200, 201, 300} {
			for at := range n {
				if n > 7 && at%50 > 1 && at < n-1 {
					continue
				}
				checks(t, "one that may not be", with(1, n, func(b *api.Block) { b.Txs[at] = bad }), api.ErrArg)
			}
		}
	}
	// Their ids are one, noughts, but that comes later.
	checks(t, "two that may not be", with(1, 2, func(b *api.Block) { b.Txs[0], b.Txs[1] = badForm(), badAmounts() }), api.ErrArg)
}

func TestHowManyTransactions(t *testing.T) {
	for n := range 420 {
		want := api.OK
		if n > 200 {
			want = api.ErrFull
		}
		if n < 10 || n > 190 && n < 210 || n%50 < 2 || n%64 < 2 {
			checks(t, "transactions", some(1, n), want)
		}
	}
	checks(t, "65537", some(0, 65537), api.ErrFull)
}

func TestTwoOfOneID(t *testing.T) {
	for _, n := range []int{2, 3, 5, 8} {
		for i := range n {
			for j := range i {
				checks(t, "two of one id", with(1, n, func(b *api.Block) { b.Txs[i] = b.Txs[j] }), api.ErrExists)
			}
		}
	}
	for _, at := range [][2]int{{0, 1}, {0, 199}, {198, 199}, {99, 100}, {50, 150}} {
		checks(t, "two of many", with(1, 200, func(b *api.Block) { b.Txs[at[1]] = b.Txs[at[0]] }), api.ErrExists)
	}
	checks(t, "all of one id", with(1, 4, func(b *api.Block) { b.Txs = []api.Tx{pay(1), pay(1), pay(1), pay(1)} }), api.ErrExists)
	checks(t, "in other memory", rooted(api.Block{Txs: []api.Tx{pay(1), again(api.Block{Txs: []api.Tx{pay(1)}}).Txs[0]}}), api.ErrExists)
	// Two that spend one outpoint are not asked of here.
	spending := with(1, 2, func(b *api.Block) { b.Txs[1].Inputs = b.Txs[0].Inputs })
	checks(t, "two that spend one outpoint", spending, api.OK)
}

func TestAnotherRoot(t *testing.T) {
	for _, n := range []int{0, 1, 2, 5, 200} {
		b := some(1, n)
		for bit := range 256 {
			other := b
			other.Header.Root[bit/8] ^= 1 << (bit % 8)
			checks(t, "a root that differs in one bit", other, api.ErrRoot)
		}
		for _, root := range []api.Hash{{}, some(1, n+1).Header.Root, b.Header.Coins, b.Header.Accepted, b.Header.Miner} {
			other := b
			other.Header.Root = root
			checks(t, "another root", other, api.ErrRoot)
		}
	}
	turned := some(1, 3)
	turned.Txs[0], turned.Txs[2] = turned.Txs[2], turned.Txs[0]
	checks(t, "another order", turned, api.ErrRoot)
}

// All sets of what may be wrong: the first one is told.
func TestWhichErrorComesFirst(t *testing.T) {
	faults := []struct {
		e  api.Errno
		do func(b *api.Block, at int)
	}{
		{api.ErrArg, func(b *api.Block, at int) { b.Header.Parents = headed(256).Parents }},
		{api.ErrFull, func(b *api.Block, at int) { b.Txs = append(b.Txs, some(0, 201).Txs[len(b.Txs):]...) }},
		{api.ErrExists, func(b *api.Block, at int) { b.Txs[(at+1)%3] = b.Txs[(at+2)%3] }},
		{api.ErrArg, func(b *api.Block, at int) { b.Txs[at%len(b.Txs)] = badForm() }},
		{api.ErrArg, func(b *api.Block, at int) { b.Txs[at%len(b.Txs)] = badAmounts() }},
	}
	for set := range 1 << (len(faults) + 1) {
		for _, at := range []int{0, 1, 2, 200} {
			b := some(1, 3)
			want := api.OK
			for i, fault := range faults {
				if set>>i&1 == 1 {
					fault.do(&b, at)
					want = first(want, fault.e)
				}
			}
			b = rooted(b)
			if set>>len(faults) == 1 {
				b.Header.Root[at%32] ^= 1
				want = first(want, api.ErrRoot)
			}
			checks(t, "several", b, want)
		}
	}
}

// first answers which of two errors the chapter names first.
func first(a, b api.Errno) api.Errno {
	for _, e := range []api.Errno{api.ErrArg, api.ErrFull, api.ErrExists, api.ErrRoot} {
		if a == e || b == e {
			return e
		}
	}
	return api.OK
}

func TestCheckOfMany(t *testing.T) {
	chance := rand.New(rand.NewSource(2))
	met := map[api.Errno]int{}
	for range 6000 {
		b := anyBlock(chance)
		want := wantCheck(b)
		checks(t, "one of many", b, want)
		if t.Failed() {
			t.Fatal(b)
		}
		met[want]++
	}
	for _, e := range []api.Errno{api.OK, api.ErrArg, api.ErrFull, api.ErrExists, api.ErrRoot} {
		if met[e] < 50 {
			t.Errorf("%v: met %d times alone", e, met[e])
		}
	}
}
