package sha

import "math/bits"

// A root is told in units of 2^-32; none of those that are asked for is 8 or above, so 3 bits stand ahead of the point.
const rootBits = 3 + 32

// Start answers the i-th word of the start.
func Start(i int) uint32 {
	if i < 0 || i >= len(startWords) {
		return 0
	}
	p := prime(i)
	return root(func(x uint64) bool {
		high, low := bits.Mul64(x, x)
		return high > p || high == p && low > 0
	})
}

// Constant answers the i-th of the constants.
func Constant(i int) uint32 {
	if i < 0 || i >= len(roundWords) {
		return 0
	}
	p := prime(i)
	return root(func(x uint64) bool {
		// The square has more than 64 bits, so the cube is made of its two halves.
		squareHigh, squareLow := bits.Mul64(x, x)
		high, low := bits.Mul64(squareLow, x)
		high += squareHigh * x
		return high > p<<32 || high == p<<32 && low > 0
	})
}

// root answers the bits behind the point of the greatest number that is not too great.
func root(tooGreat func(uint64) bool) uint32 {
	var x uint64
	for i := range rootBits {
		bit := uint64(1) << (rootBits - 1 - i)
		if !tooGreat(x | bit) {
			x |= bit
		}
	}
	return uint32(x)
}

// prime answers the i-th prime, from 0 on.
func prime(i int) uint64 {
	n := uint64(2)
	for range i {
		n++
		for !isPrime(n) {
			n++
		}
	}
	return n
}

func isPrime(n uint64) bool {
	for d := uint64(2); d*d <= n; d++ {
		if n%d == 0 {
			return false
		}
	}
	return true
}
