package tx_test

import (
	"bytes"
	"crypto/sha256"
	"encoding/binary"
	"math/rand"
	"testing"

	"plexus/api"
	"plexus/tx"
)

// refused asks Of of what it may not take.
func refused(t *testing.T, name string, b []byte) {
	t.Helper()
	given := bytes.Clone(b)
	x, e := tx.Of(b)
	if e != api.ErrBytes || x.Inputs != nil || x.Outputs != nil || x.Nonce != 0 {
		t.Errorf("%s: %v, %v", name, x, e)
	}
	if !bytes.Equal(given, b) {
		t.Errorf("%s: the bytes that were handed in were changed", name)
	}
}

func TestHowManyBytes(t *testing.T) {
	b, e := tx.Bytes(api.Tx{Inputs: make([]api.Input, 1), Outputs: []api.Output{{Amount: 1}}})
	if len(b) != 92 || e != api.OK {
		t.Errorf("one input, no witness, one output: %d, %v", len(b), e)
	}
}

func TestBytesOneByOne(t *testing.T) {
	x := api.Tx{
		Inputs: []api.Input{
			{Out: api.Outpoint{ID: api.Hash{9, 8, 31: 7}, N: 0x04030201}, Witness: []byte{5, 6}},
			{Out: api.Outpoint{ID: api.Hash{1}, N: 258}},
		},
		Outputs: []api.Output{{Amount: 0x3060504030201, Lock: api.Hash{11, 31: 12}}},
		Nonce:   0x8877665544332211,
	}
	noughts := func(n int) []byte { return make([]byte, n) }
	want := bytes.Join([][]byte{
		{2, 0},
		{9, 8}, noughts(29), {7}, {1, 2, 3, 4}, {2, 0, 0, 0}, {5, 6},
		{1}, noughts(31), {2, 1, 0, 0}, {0, 0, 0, 0},
		{1, 0},
		{1, 2, 3, 4, 5, 6, 3, 0}, {11}, noughts(30), {12},
		{0x11, 0x22, 0x33, 0x44, 0x55, 0x66, 0x77, 0x88},
	}, nil)
	if b, e := tx.Bytes(x); !bytes.Equal(b, want) || e != api.OK {
		t.Errorf("%v, %v, want %v", b, e, want)
	}
	if y, e := tx.Of(want); string(raw(y)) != string(want) || e != api.OK {
		t.Errorf("%v, %v, want %v", y, e, x)
	}
}

func TestBytesAtEdges(t *testing.T) {
	for i, x := range edges() {
		unchanged(t, x, func() {
			if b, e := tx.Bytes(x); !bytes.Equal(b, raw(x)) || e != api.OK {
				t.Errorf("%d: %v, %v", i, b, e)
			}
		})
	}
}

func TestBytesAreNewMemory(t *testing.T) {
	x := some(3, 2)
	a, _ := tx.Bytes(x)
	b, _ := tx.Bytes(x)
	clear(a[:cap(a)])
	if !bytes.Equal(b, raw(x)) {
		t.Error("two answers share memory")
	}
}

func TestWhatMayNotBeHasNoBytesAndNoID(t *testing.T) {
	for name, c := range wrong() {
		checks(t, name, c.x, c.e)
		unchanged(t, c.x, func() {
			if b, e := tx.Bytes(c.x); b != nil || e != c.e {
				t.Errorf("%s: %v, %v, want %v", name, b, e, c.e)
			}
			if h := tx.ID(c.x); h != (api.Hash{}) {
				t.Errorf("%s: the id is %x", name, h)
			}
		})
		refused(t, name, raw(c.x))
	}
}

func TestOfBytesThatAreCut(t *testing.T) {
	refused(t, "nil", nil)
	refused(t, "no bytes", []byte{})
	for i, x := range edges() {
		b := raw(x)
		for n := range b {
			refused(t, "cut behind", b[:n])
		}
		for n := 1; n < min(len(b), 200); n++ {
			refused(t, "cut ahead", b[n:])
		}
		for _, more := range [][]byte{{0}, {1}, {255}, {0, 0}, make([]byte, 8), make([]byte, 92), b} {
			refused(t, "more behind", append(bytes.Clone(b), more...))
		}
		refused(t, "one more ahead", append([]byte{0}, b...))
		if t.Failed() {
			t.Fatalf("at %d", i)
		}
	}
}

func TestOfOtherCounts(t *testing.T) {
	for _, c := range []struct{ inputs, outputs int }{{1, 1}, {2, 3}, {5, 1}, {64, 64}} {
		x := some(c.inputs, c.outputs)
		b := raw(x)
		at := len(b) - 8 - 40*c.outputs - 2 // of the outputs' count
		for _, n := range []int{0, 1, 2, 3, 4, 5, 6, 63, 64, 65, 66, 127, 128, 255, 256, 257, 32768, 65534, 65535} {
			other := bytes.Clone(b)
			binary.LittleEndian.PutUint16(other, uint16(n))
			if n != c.inputs {
				refused(t, "inputs", other)
				refused(t, "inputs, and bytes of noughts enough for them", append(other, make([]byte, 40*n+50)...))
			}
			other = bytes.Clone(b)
			binary.LittleEndian.PutUint16(other[at:], uint16(n))
			if n != c.outputs {
				refused(t, "outputs", other)
			}
		}
	}
}

func TestOfOtherWitnessLengths(t *testing.T) {
	x := with(2, 1, func(x *api.Tx) { x.Inputs[0].Witness = []byte("opens") })
	b := raw(x)
	for _, n := range []uint32{0, 1, 4, 6, 7, 255, 256, 257, 1 << 16, 1<<24 - 1, 1 << 24, 1<<24 + 1, 1<<31 - 1, 1 << 31, 1<<32 - 1} {
		other := bytes.Clone(b)
		binary.LittleEndian.PutUint32(other[2+36:], n)
		refused(t, "a witness' length", other)
	}
	long := with(1, 1, func(x *api.Tx) { x.Inputs[0].Witness = make([]byte, 1<<20) })
	refused(t, "a witness of 2^20 bytes", raw(long))
	long.Inputs[0].Witness = make([]byte, api.MaxBlob+1)
	refused(t, "a witness of more than a blob has", raw(long))
}

// With a byte changed, they are another one's, or none's.
func TestOfNearBytes(t *testing.T) {
	taken, gone := 0, 0
	for _, x := range []api.Tx{some(1, 1), some(3, 2), some(2, 4)} {
		b := raw(x)
		for at := range b {
			for _, bit := range []byte{1, 2, 16, 128, 255} {
				other := bytes.Clone(b)
				other[at] ^= bit
				y, e := tx.Of(other)
				if e == api.ErrBytes {
					refused(t, "a byte changed", other)
					gone++
					continue
				}
				if e != api.OK || !bytes.Equal(raw(y), other) || wantCheck(y) != api.OK {
					t.Fatalf("%v: %v, %v", other, y, e)
				}
				taken++
			}
		}
	}
	if taken < 500 || gone < 50 {
		t.Errorf("%d taken, %d refused: too few to tell", taken, gone)
	}
}

func TestOfAnyBytes(t *testing.T) {
	chance := rand.New(rand.NewSource(2))
	for range 20000 {
		b := make([]byte, chance.Intn(300))
		chance.Read(b)
		if len(b) > 1 && chance.Intn(4) > 0 {
			b[0], b[1] = byte(chance.Intn(3)), 0
		}
		if y, e := tx.Of(b); e == api.OK && !bytes.Equal(raw(y), b) || e != api.OK && e != api.ErrBytes {
			t.Fatalf("%v: %v, %v", b, y, e)
		}
	}
}

// What Of answers shares nothing with the bytes, and no two of its lists share any.
func TestOfAnswersNewMemory(t *testing.T) {
	x := with(3, 2, func(x *api.Tx) { x.Inputs[0].Witness = []byte("first") })
	b := raw(x)
	y, _ := tx.Of(b)
	clear(b)
	if !bytes.Equal(raw(y), raw(x)) {
		t.Error("the bytes are shared")
	}
	for i := range y.Inputs {
		w := y.Inputs[i].Witness
		w = w[:cap(w)]
		for j := range w {
			w[j] ^= 255
		}
		for j := range y.Inputs {
			if i < j && !bytes.Equal(y.Inputs[j].Witness, x.Inputs[j].Witness) {
				t.Errorf("the witnesses of %d and %d share memory", i, j)
			}
		}
	}
}

func TestID(t *testing.T) {
	for i, x := range manyThatMay(3, 2000) {
		want := sha256.Sum256(append([]byte{2, 't', 'x'}, raw(x)...))
		unchanged(t, x, func() {
			if h := tx.ID(x); h != want {
				t.Errorf("%d: %x, want %x", i, h, want)
			}
		})
	}
}
