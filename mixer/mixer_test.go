package mixer_test

import (
	"testing"

	"ratchet/mixer"
)

func TestNext(t *testing.T) {
	m := mixer.Mixer(0)
	for _, want := range []uint64{0xe220a8397b1dcdaf, 0x6e789e6aa1b965f4, 0x06c45d188009454f} {
		if got := m.Next(); got != want {
			t.Errorf("%x; want %x", got, want)
		}
	}
}

func TestBelow(t *testing.T) {
	m := mixer.Mixer(1)
	for n := 1; n < 20; n++ {
		met := make([]bool, n)
		for range 100 * n {
			met[m.Below(n)] = true
		}
		for k, was := range met {
			if !was {
				t.Errorf("Below(%d) never told %d", n, k)
			}
		}
	}
}
