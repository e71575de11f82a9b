package sha

import "testing"

func TestWordsAreRoots(t *testing.T) {
	for i, x := range startWords {
		if x != Start(i) {
			t.Errorf("start %d: %#x, found %#x", i, x, Start(i))
		}
	}
	for i, x := range roundWords {
		if x != Constant(i) {
			t.Errorf("constant %d: %#x, found %#x", i, x, Constant(i))
		}
	}
}

func BenchmarkTagOfHash(b *testing.B) {
	part := make([]byte, 32)
	for b.Loop() {
		Tag("leaf", part)
	}
}

func BenchmarkSumOfLong(b *testing.B) {
	part := make([]byte, 1<<20)
	b.SetBytes(1 << 20)
	for b.Loop() {
		Sum(part)
	}
}
