package sha_test

import (
	"crypto/sha256"
	"encoding"
	"encoding/binary"
	"math"
	"math/big"
	"math/rand"
	"testing"

	"plexus/sha"
)

// primesBelow answers by a sieve, so that it shares no way with what it tests.
func primesBelow(n int) []int64 {
	struck := make([]bool, n)
	var l []int64
	for i := 2; i < n; i++ {
		if struck[i] {
			continue
		}
		l = append(l, int64(i))
		for j := i * i; j < n; j += i {
			struck[j] = true
		}
	}
	return l
}

// isRoot asks whether some whole number and fraction/2^32 are p's root of a degree, cut off behind 32 bits.
func isRoot(fraction uint32, p, degree int64) bool {
	to := big.NewInt(degree)
	wanted := new(big.Int).Lsh(big.NewInt(p), uint(32*degree))
	for whole := range int64(8) {
		x := big.NewInt(whole<<32 | int64(fraction))
		next := new(big.Int).Add(x, big.NewInt(1))
		if x.Exp(x, to, nil).Cmp(wanted) <= 0 && next.Exp(next, to, nil).Cmp(wanted) > 0 {
			return true
		}
	}
	return false
}

func TestStart(t *testing.T) {
	for i, p := range primesBelow(20) {
		if x := sha.Start(i); !isRoot(x, p, 2) {
			t.Errorf("%d: %#x is not of the square root of %d", i, x, p)
		}
	}
	for i, x := range map[int]uint32{0: 0x6a09e667, 1: 0xbb67ae85, 7: 0x5be0cd19} {
		if sha.Start(i) != x {
			t.Errorf("%d: %#x, want %#x", i, sha.Start(i), x)
		}
	}
}

func TestConstant(t *testing.T) {
	primes := primesBelow(312)
	if len(primes) != 64 {
		t.Fatal(len(primes))
	}
	for i, p := range primes {
		if x := sha.Constant(i); !isRoot(x, p, 3) {
			t.Errorf("%d: %#x is not of the cube root of %d", i, x, p)
		}
	}
	for i, x := range map[int]uint32{0: 0x428a2f98, 1: 0x71374491, 63: 0xc67178f2} {
		if sha.Constant(i) != x {
			t.Errorf("%d: %#x, want %#x", i, sha.Constant(i), x)
		}
	}
}

func TestNoSuchWord(t *testing.T) {
	for _, i := range []int{math.MinInt, math.MinInt32, -64, -8, -1, 64, 65, 128, 256, 1 << 32, math.MaxInt32, math.MaxInt} {
		if x := sha.Start(i); x != 0 {
			t.Errorf("start %d: %#x", i, x)
		}
		if x := sha.Constant(i); x != 0 {
			t.Errorf("constant %d: %#x", i, x)
		}
	}
	for i := 8; i < 64; i++ {
		if x := sha.Start(i); x != 0 || sha.Constant(i) == 0 {
			t.Errorf("%d: %#x, %#x", i, x, sha.Constant(i))
		}
	}
}

// libraryPress lays a state into the library's hash, which then takes the block.
func libraryPress(t *testing.T, state [8]uint32, block [64]byte) [8]uint32 {
	t.Helper()
	const magic = "sha\x03"
	saved := []byte(magic)
	for _, x := range state {
		saved = binary.BigEndian.AppendUint32(saved, x)
	}
	saved = append(saved, make([]byte, 64+8)...)
	hash := sha256.New()
	if err := hash.(encoding.BinaryUnmarshaler).UnmarshalBinary(saved); err != nil {
		t.Fatal(err)
	}
	hash.Write(block[:])
	saved, err := hash.(encoding.BinaryMarshaler).MarshalBinary()
	if err != nil {
		t.Fatal(err)
	}
	for i := range state {
		state[i] = binary.BigEndian.Uint32(saved[len(magic)+4*i:])
	}
	return state
}

func startState() [8]uint32 {
	var s [8]uint32
	for i := range s {
		s[i] = sha.Start(i)
	}
	return s
}

// abc, padded by hand, is one block.
func TestPressExample(t *testing.T) {
	block := [64]byte{'a', 'b', 'c', 128, 63: 24}
	want := [8]uint32{0xba7816bf, 0x8f01cfea, 0x414140de, 0x5dae2223, 0xb00361a3, 0x96177a9c, 0xb410ff61, 0xf20015ad}
	if s := sha.Press(startState(), block); s != want {
		t.Errorf("%x, want %x", s, want)
	}
}

func TestPress(t *testing.T) {
	var noughts, full [64]byte
	var least, greatest [8]uint32
	for i := range full {
		full[i] = 255
	}
	for i := range greatest {
		greatest[i] = math.MaxUint32
	}
	for i, state := range [][8]uint32{least, greatest, startState()} {
		for j, block := range [][64]byte{noughts, full, {0: 1}, {63: 1}} {
			if s := sha.Press(state, block); s != libraryPress(t, state, block) {
				t.Errorf("state %d, block %d: %x", i, j, s)
			}
		}
	}
	chance := rand.New(rand.NewSource(1))
	for round := range 1000 {
		var state [8]uint32
		var block [64]byte
		for i := range state {
			state[i] = chance.Uint32()
		}
		chance.Read(block[:])
		keptState, keptBlock := state, block
		if s := sha.Press(state, block); s != libraryPress(t, state, block) {
			t.Errorf("round %d: %x", round, s)
		}
		if state != keptState || block != keptBlock {
			t.Errorf("round %d: what was handed in is changed", round)
		}
	}
}
