package sha

import "math/bits"

const rounds = 64

// Press answers the state, into which the block was pressed.
func Press(state [8]uint32, block [64]byte) [8]uint32 {
	w := spread(block)
	a, b, c, d, e, f, g, h := state[0], state[1], state[2], state[3], state[4], state[5], state[6], state[7]
	for t := range rounds {
		x := h + turns(e, 6, 11, 25) + (e&f ^ ^e&g) + roundWords[t] + w[t]
		y := turns(a, 2, 13, 22) + (a&b ^ a&c ^ b&c)
		h, g, f, e, d, c, b, a = g, f, e, d+x, c, b, a, x+y
	}
	for i, x := range [8]uint32{a, b, c, d, e, f, g, h} {
		state[i] += x
	}
	return state
}

// spread answers a word for each round.
func spread(block [64]byte) [rounds]uint32 {
	var w [rounds]uint32
	for t := range rounds {
		if t < 16 {
			w[t] = uint32(block[4*t])<<24 | uint32(block[4*t+1])<<16 | uint32(block[4*t+2])<<8 | uint32(block[4*t+3])
			continue
		}
		s0 := right(w[t-15], 7) ^ right(w[t-15], 18) ^ w[t-15]>>3
		s1 := right(w[t-2], 17) ^ right(w[t-2], 19) ^ w[t-2]>>10
		w[t] = w[t-16] + s0 + w[t-7] + s1
	}
	return w
}

func turns(x uint32, i, j, k int) uint32 {
	return right(x, i) ^ right(x, j) ^ right(x, k)
}

func right(x uint32, n int) uint32 {
	return bits.RotateLeft32(x, -n)
}
