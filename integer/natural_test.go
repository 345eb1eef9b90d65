package integer

import "testing"

// Words and their limbs are the same numbers, also at the ends of their ranges, and a
// number has limbs only if it is no word: otherwise equal numbers could differ.
func TestSpread(t *testing.T) {
	for _, n := range []uint64{0, 1, base - 1, base, base + 1, wordEnd - 1, wordEnd, wordEnd + 1, 1<<63 - 1, 1 << 63, 1<<64 - 1} {
		a := of(n)
		if a.isWord() != (n < wordEnd) {
			t.Errorf("%d is a word: %t", n, a.isWord())
		}
		limbs := a.spread()
		value := uint64(0)
		for i := len(limbs) - 1; i >= 0; i-- {
			if limbs[i] >= base || limbs[len(limbs)-1] == 0 {
				t.Errorf("%d has the limbs %v", n, limbs)
			}
			value = value*base + limbs[i]
		}
		if value != n {
			t.Errorf("%d has the limbs %v, which are %d", n, limbs, value)
		}
		if b := trim(append(limbs[:len(limbs):len(limbs)], 0, 0)); a.compare(b) != 0 || a.isWord() != b.isWord() {
			t.Errorf("%d is %v, but its limbs are %v", n, a, b)
		}
	}
}
