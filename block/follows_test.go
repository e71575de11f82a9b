package block_test

import (
	"bytes"
	"testing"

	"plexus/api"
	"plexus/block"
	"plexus/sha"
)

func TestReadFromTheirBytes(t *testing.T) {
	for _, b := range manyWithTheirForm(5, 3000) {
		own, e := block.Bytes(b)
		if e != api.OK {
			t.Fatalf("%v: %v", b, e)
		}
		got, e := block.Of(own)
		if e != api.OK || !block.Same(got, b) || !bytes.Equal(raw(got), raw(b)) || !block.Same(block.Copy(got), b) {
			t.Fatalf("%v is read as %v, %v", b, got, e)
		}
		header, e := block.HeaderBytes(b.Header)
		if e != api.OK {
			t.Fatalf("%v: %v", b.Header, e)
		}
		h, e := block.HeaderOf(header)
		if e != api.OK || !block.SameHeader(h, b.Header) || !bytes.Equal(rawHeader(h), rawHeader(b.Header)) || block.ID(h) != block.ID(b.Header) {
			t.Fatalf("%v is read as %v, %v", b.Header, h, e)
		}
	}
}

func TestUnlikeHeadersHaveUnlikeBytes(t *testing.T) {
	for _, parents := range []int{0, 1, 3, 255} {
		h := headed(parents)
		own, _ := block.HeaderBytes(h)
		for _, g := range unlikeHeaders(h) {
			b, e := block.HeaderBytes(g)
			if len(g.Parents) > 255 {
				continue
			}
			if e != api.OK || bytes.Equal(b, own) {
				t.Errorf("%v and %v have one's bytes: %v", g, h, e)
			}
			if block.ID(g) == block.ID(h) {
				t.Errorf("%v and %v have one's id", g, h)
			}
		}
	}
}

func TestUnlikeBlocksHaveUnlikeBytes(t *testing.T) {
	met := 0
	for _, b := range []api.Block{some(0, 0), some(1, 1), some(2, 3), some(1, 5)} {
		own, _ := block.Bytes(b)
		var l []api.Block
		for _, h := range unlikeHeaders(b.Header) {
			l = append(l, rooted(api.Block{Header: h, Txs: b.Txs}))
		}
		for _, c := range unlikeTxs(b) {
			l = append(l, rooted(c))
		}
		for _, c := range l {
			if bytes.Equal(raw(c), raw(b)) {
				continue
			}
			other, e := block.Bytes(c)
			if e != api.OK {
				continue
			}
			met++
			if bytes.Equal(other, own) || block.Same(c, b) {
				t.Errorf("%v and %v have one's bytes", c, b)
			}
			if block.ID(c.Header) == block.ID(b.Header) {
				t.Errorf("%v and %v have one's id", c, b)
			}
		}
	}
	if met < 3000 {
		t.Errorf("%d met: too few to tell", met)
	}
}

// A header is that of one block alone: with other transactions its root is another one.
func TestOneHeaderIsOneBlocks(t *testing.T) {
	for _, b := range []api.Block{some(0, 0), some(1, 1), some(2, 3), some(1, 5)} {
		for _, c := range unlikeTxs(b) {
			if bytes.Equal(raw(c), raw(b)) {
				continue
			}
			if block.ID(c.Header) != block.ID(b.Header) || block.Check(c) == api.OK {
				t.Errorf("%v and %v have their form, and one id", c, b)
			}
		}
	}
}

// The texts that are hashed for ids are layer 2's, under their name, so that who finds two unlike ones of one id can show them.
func TestAnIDIsTheHashOfOneText(t *testing.T) {
	ids := map[api.Hash]string{}
	for _, b := range manyWithTheirForm(6, 3000) {
		own, _ := block.HeaderBytes(b.Header)
		whole := "\x05block" + string(own)
		id := block.ID(b.Header)
		if id != sha.Sum([]byte(whole)) || id != sha.Tag("block", own) {
			t.Fatalf("%v: the id is not its text's hash", b)
		}
		if other, is := ids[id]; is && other != whole {
			t.Fatalf("%q and %q are two unlike texts with one hash", whole, other)
		}
		ids[id] = whole
	}
}
