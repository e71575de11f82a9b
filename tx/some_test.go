package tx_test

import (
	"bytes"
	"encoding/binary"
	"math"
	"math/rand"
	"testing"

	"plexus/api"
)

// The limits, as the chapters tell them.
const (
	maxInputs  = 64
	maxOutputs = 64
	maxWitness = 256
	most       = 1 << 50
	greatest   = math.MaxUint64
)

func TestLimits(t *testing.T) {
	if api.MaxInputs != maxInputs || api.MaxOutputs != maxOutputs || api.MaxWitness != maxWitness || api.MaxMoney != most {
		t.Error("a limit is another one")
	}
}

// some answers a transaction that may be, if its numbers of inputs and outputs may.
func some(inputs, outputs int) api.Tx {
	x := api.Tx{Nonce: uint64(1000*inputs + outputs)}
	for i := range inputs {
		out := api.Outpoint{ID: api.Hash{byte(i), 1}, N: uint32(i * i)}
		x.Inputs = append(x.Inputs, api.Input{Out: out, Witness: bytes.Repeat([]byte{byte(i + 1)}, i%5)})
	}
	for i := range outputs {
		x.Outputs = append(x.Outputs, api.Output{Amount: uint64(i + 1), Lock: api.Hash{byte(i), 2}})
	}
	return x
}

// with answers such a transaction, changed.
func with(inputs, outputs int, change func(x *api.Tx)) api.Tx {
	x := some(inputs, outputs)
	change(&x)
	return x
}

// paying answers a transaction of one input, with outputs of these amounts.
func paying(amounts ...uint64) api.Tx {
	x := some(1, 0)
	for i, a := range amounts {
		x.Outputs = append(x.Outputs, api.Output{Amount: a, Lock: api.Hash{byte(i)}})
	}
	return x
}

// spending answers a transaction of one output, with inputs of these outpoints.
func spending(outs ...api.Outpoint) api.Tx {
	x := some(0, 1)
	for _, out := range outs {
		x.Inputs = append(x.Inputs, api.Input{Out: out})
	}
	return x
}

// raw is the chapter's bytes of any transaction, whether it may be or not.
func raw(x api.Tx) []byte {
	b := binary.LittleEndian.AppendUint16(nil, uint16(len(x.Inputs)))
	for _, in := range x.Inputs {
		b = append(b, in.Out.ID[:]...)
		b = binary.LittleEndian.AppendUint32(b, in.Out.N)
		b = binary.LittleEndian.AppendUint32(b, uint32(len(in.Witness)))
		b = append(b, in.Witness...)
	}
	b = binary.LittleEndian.AppendUint16(b, uint16(len(x.Outputs)))
	for _, out := range x.Outputs {
		b = binary.LittleEndian.AppendUint64(b, out.Amount)
		b = append(b, out.Lock[:]...)
	}
	return binary.LittleEndian.AppendUint64(b, x.Nonce)
}

// unlike answers transactions that are all unlike x, each in one thing alone.
func unlike(x api.Tx) []api.Tx {
	var l []api.Tx
	put := func(change func(y *api.Tx)) {
		y := again(x)
		change(&y)
		l = append(l, y)
	}
	for bit := range 64 {
		put(func(y *api.Tx) { y.Nonce ^= 1 << bit })
	}
	for i, in := range x.Inputs {
		for at := range in.Out.ID {
			put(func(y *api.Tx) { y.Inputs[i].Out.ID[at] ^= 1 })
		}
		for bit := range 32 {
			put(func(y *api.Tx) { y.Inputs[i].Out.N ^= 1 << bit })
		}
		for at := range in.Witness {
			put(func(y *api.Tx) { y.Inputs[i].Witness[at] ^= 128 })
			put(func(y *api.Tx) { y.Inputs[i].Witness = y.Inputs[i].Witness[:at] })
		}
		put(func(y *api.Tx) { y.Inputs[i].Witness = append(y.Inputs[i].Witness, 0) })
		put(func(y *api.Tx) { y.Inputs = y.Inputs[:i] })
		put(func(y *api.Tx) { y.Inputs = append(y.Inputs[:i], y.Inputs[i+1:]...) })
		put(func(y *api.Tx) { y.Inputs = append(y.Inputs, y.Inputs[i]) })
		if i > 0 {
			put(func(y *api.Tx) { y.Inputs[i-1], y.Inputs[i] = y.Inputs[i], y.Inputs[i-1] })
		}
	}
	for i, out := range x.Outputs {
		for bit := range 64 {
			put(func(y *api.Tx) { y.Outputs[i].Amount ^= 1 << bit })
		}
		for at := range out.Lock {
			put(func(y *api.Tx) { y.Outputs[i].Lock[at] ^= 1 })
		}
		put(func(y *api.Tx) { y.Outputs = y.Outputs[:i] })
		put(func(y *api.Tx) { y.Outputs = append(y.Outputs[:i], y.Outputs[i+1:]...) })
		put(func(y *api.Tx) { y.Outputs = append(y.Outputs, y.Outputs[i]) })
		if i > 0 {
			put(func(y *api.Tx) { y.Outputs[i-1], y.Outputs[i] = y.Outputs[i], y.Outputs[i-1] })
		}
	}
	put(func(y *api.Tx) { y.Inputs = append(y.Inputs, api.Input{}) })
	put(func(y *api.Tx) { y.Outputs = append(y.Outputs, api.Output{}) })
	// Where two that stand beside each other are alike, turning them comes to x itself.
	own := string(raw(x))
	var others []api.Tx
	for _, y := range l {
		if string(raw(y)) != own {
			others = append(others, y)
		}
	}
	return others
}

// again answers a transaction in new memory, by the test's own hand.
func again(x api.Tx) api.Tx {
	y := api.Tx{Nonce: x.Nonce}
	for _, in := range x.Inputs {
		y.Inputs = append(y.Inputs, api.Input{Out: in.Out, Witness: append([]byte(nil), in.Witness...)})
	}
	y.Outputs = append(y.Outputs, x.Outputs...)
	return y
}

// anyTx is now one that may be, now one that may not be, for one thing or for several.
func anyTx(chance *rand.Rand) api.Tx {
	x := api.Tx{Nonce: chance.Uint64() >> chance.Intn(64)}
	for range anyCount(chance) {
		in := api.Input{Out: api.Outpoint{ID: anyHash(chance), N: uint32(chance.Intn(40))}, Witness: make([]byte, chance.Intn(4))}
		if chance.Intn(20) == 0 {
			in.Witness = make([]byte, maxWitness-1+chance.Intn(3))
		}
		chance.Read(in.Witness)
		x.Inputs = append(x.Inputs, in)
	}
	for range anyCount(chance) {
		x.Outputs = append(x.Outputs, api.Output{Amount: anyAmount(chance), Lock: anyHash(chance)})
	}
	return x
}

func anyCount(chance *rand.Rand) int {
	if chance.Intn(10) == 0 {
		return []int{0, 63, 64, 65}[chance.Intn(4)]
	}
	return 1 + chance.Intn(5)
}

func anyHash(chance *rand.Rand) api.Hash {
	return api.Hash{byte(chance.Intn(8)), 31: byte(chance.Intn(3))}
}

func anyAmount(chance *rand.Rand) uint64 {
	switch chance.Intn(40) {
	case 0:
		return []uint64{0, most - 1, most, most + 1, 1 << 63, greatest - 1, greatest}[chance.Intn(7)]
	case 1:
		return most/2 + uint64(chance.Intn(2))
	default:
		return 1 + chance.Uint64()>>(15+chance.Intn(49))
	}
}

// edges are transactions that may be, but just so.
func edges() []api.Tx {
	return []api.Tx{
		{Inputs: make([]api.Input, 1), Outputs: []api.Output{{Amount: 1}}},
		some(1, 1),
		some(3, 2),
		some(64, 1),
		some(1, 64),
		some(64, 64),
		paying(most),
		paying(most-1, 1),
		with(2, 1, func(x *api.Tx) { x.Inputs[0].Witness, x.Inputs[1].Witness = make([]byte, 256), make([]byte, 255) }),
		with(2, 2, func(x *api.Tx) { x.Inputs[1].Out = api.Outpoint{ID: x.Inputs[0].Out.ID, N: 1<<32 - 1} }),
		with(1, 1, func(x *api.Tx) { x.Nonce = greatest }),
		with(1, 1, func(x *api.Tx) { x.Nonce = 0 }),
	}
}

// wrong are transactions that may not be, and why.
func wrong() map[string]struct {
	x api.Tx
	e api.Errno
} {
	type row = struct {
		x api.Tx
		e api.Errno
	}
	a := api.Outpoint{ID: api.Hash{1}, N: 1}
	return map[string]row{
		"nothing":                        {api.Tx{}, api.ErrArg},
		"no inputs":                      {some(0, 1), api.ErrArg},
		"no outputs":                     {some(1, 0), api.ErrArg},
		"65 inputs":                      {some(65, 1), api.ErrArg},
		"65 outputs":                     {some(1, 65), api.ErrArg},
		"300 inputs":                     {some(300, 1), api.ErrArg},
		"300 outputs":                    {some(1, 300), api.ErrArg},
		"two of one outpoint":            {spending(a, a), api.ErrArg},
		"two of one outpoint, apart":     {spending(a, api.Outpoint{}, a), api.ErrArg},
		"a witness of 257":               {with(2, 1, func(x *api.Tx) { x.Inputs[1].Witness = make([]byte, 257) }), api.ErrArg},
		"an output of nothing":           {paying(1, 0), api.ErrMoney},
		"an output of one more":          {paying(most + 1), api.ErrMoney},
		"outputs that come to one more":  {paying(most, 1), api.ErrMoney},
		"outputs that come round":        {paying(greatest, 2), api.ErrMoney},
		"a form and amounts, both wrong": {with(0, 1, func(x *api.Tx) { x.Outputs[0].Amount = 0 }), api.ErrArg},
	}
}

// manyThatMay are transactions that may be, the edges among them.
func manyThatMay(seed int64, n int) []api.Tx {
	chance := rand.New(rand.NewSource(seed))
	l := edges()
	for len(l) < n {
		if x := anyTx(chance); wantCheck(x) == api.OK {
			l = append(l, x)
		}
	}
	return l
}

// unchanged does what it is told, and asks whether x, which was handed in, is as it was.
func unchanged(t *testing.T, x api.Tx, do func()) {
	t.Helper()
	own := raw(x)
	do()
	if !bytes.Equal(own, raw(x)) {
		t.Errorf("what was handed in was changed: %v", x)
	}
}
