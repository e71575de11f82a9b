package tx_test

import (
	"bytes"
	"testing"

	"plexus/api"
	"plexus/sha"
	"plexus/tx"
)

func TestReadFromItsBytes(t *testing.T) {
	for _, x := range manyThatMay(5, 5000) {
		b, e := tx.Bytes(x)
		if e != api.OK {
			t.Fatalf("%v: %v", x, e)
		}
		y, e := tx.Of(b)
		if e != api.OK || !tx.Same(x, y) || !bytes.Equal(raw(x), raw(y)) {
			t.Fatalf("%v is read as %v, %v", x, y, e)
		}
		if tx.ID(y) != tx.ID(x) || tx.Out(y) != tx.Out(x) || !tx.Spends(x, y) || !tx.Same(tx.Copy(y), x) {
			t.Fatalf("what is read is another one: %v, %v", x, y)
		}
	}
}

// What is told of the bytes of unlike ones follows for their ids: they are of one hash alone if two unlike texts are.
func TestUnlikeOnesHaveUnlikeBytes(t *testing.T) {
	met := 0
	for _, x := range []api.Tx{some(1, 1), some(2, 3), some(4, 2), with(2, 1, func(x *api.Tx) { x.Inputs[0].Witness = []byte{1, 0, 0, 0, 0} })} {
		own, _ := tx.Bytes(x)
		for _, y := range unlike(x) {
			b, e := tx.Bytes(y)
			if e != api.OK {
				continue
			}
			met++
			if bytes.Equal(b, own) {
				t.Errorf("%v and %v have one's bytes", x, y)
			}
			if tx.ID(y) == tx.ID(x) {
				t.Errorf("%v and %v have one's id", x, y)
			}
		}
	}
	if met < 1000 {
		t.Errorf("%d met: too few to tell", met)
	}
}

// The texts that are hashed for ids are layer 2's, under their name, so that who finds two unlike ones of one id can show them.
func TestAnIDIsTheHashOfOneText(t *testing.T) {
	texts := map[string]api.Tx{}
	ids := map[api.Hash]string{}
	for _, x := range manyThatMay(6, 5000) {
		b, _ := tx.Bytes(x)
		whole := "\x02tx" + string(b)
		if other, is := texts[whole]; is && !tx.Same(x, other) {
			t.Fatalf("%v and %v have one's text", x, other)
		}
		texts[whole] = x
		id := tx.ID(x)
		if id != sha.Sum([]byte(whole)) || id != sha.Tag("tx", b) {
			t.Fatalf("%v: the id is not its text's hash", x)
		}
		if other, is := ids[id]; is && other != whole {
			t.Fatalf("%q and %q are two unlike texts with one hash", whole, other)
		}
		ids[id] = whole
	}
}
