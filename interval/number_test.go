package interval

import (
	"math/big"
	"testing"
)

// wholeOf is n times 2^(64 limbs), which is whole.
func wholeOf(n number) *big.Int {
	whole := new(big.Int)
	for at := len(n) - 1; at >= 0; at-- {
		whole.Lsh(whole, 64)
		whole.Add(whole, new(big.Int).SetUint64(n[at]))
	}
	return whole
}

func numbers() []number {
	const ones = 1<<64 - 1
	return []number{{0, 0}, {1, 0}, {ones, 0}, {0, 1}, {ones, 1}, {5, 1 << 62}, {0, 0, 1}, {7, 1 << 63, 4096}, {ones, ones, 1<<63 - 1}, {1, 2, 3, 4}}
}

func copied(n number) number { return append(number{}, n...) }

func TestPutPart(t *testing.T) {
	for _, n := range numbers() {
		for _, by := range []uint64{1, 2, 3, 1000, 1 << 40, 1<<64 - 1} {
			part := make(number, len(n))
			part.putPart(n, by)
			if want := new(big.Int).Quo(wholeOf(n), new(big.Int).SetUint64(by)); wholeOf(part).Cmp(want) != 0 {
				t.Errorf("%v over %d: %v", n, by, part)
			}
		}
	}
}

func TestHalve(t *testing.T) {
	for _, n := range numbers() {
		for _, times := range []int{0, 1, 2, 12, 63} {
			half := copied(n)
			half.halve(times)
			if want := new(big.Int).Rsh(wholeOf(n), uint(times)); wholeOf(half).Cmp(want) != 0 {
				t.Errorf("%v halved %d times: %v", n, times, half)
			}
		}
	}
}

func TestDown(t *testing.T) {
	for _, n := range numbers() {
		for _, f := range []int{0, 1, 8, 33, 62} {
			want := new(big.Int).Rsh(wholeOf(n), uint(64*(len(n)-1)-f))
			if !want.IsInt64() {
				continue
			}
			if got := n.down(f); got != want.Int64() {
				t.Errorf("%v, %d: %d, want %v", n, f, got, want)
			}
		}
	}
}

func TestDownOfBothEnds(t *testing.T) {
	const least = 1 << 55 // of what is told by 9 bits
	i := Interval{low: number{7*least - 1, 2}, high: number{7 * least, 2}}
	if low, high := i.Down(9); low != 2<<9+6 || high != 2<<9+7 {
		t.Errorf("%d, %d", low, high)
	}
}

// A half goes down, and what is above one by the least goes up.
func TestNearest(t *testing.T) {
	for _, c := range []struct {
		n, whole number
		f        int
		want     int64
	}{
		{number{0, 1}, number{0, 1}, 8, 256}, {number{0, 1}, number{0, 2}, 8, 128}, {number{0, 0}, number{0, 2}, 8, 0}, {number{0, 1}, number{0, 3}, 32, 1431655765},
		{number{0, 1}, number{0, 512}, 8, 0}, {number{0, 1}, number{1, 512}, 8, 0}, {number{1, 1}, number{0, 512}, 8, 1}, {number{0, 1}, number{1<<64 - 1, 511}, 8, 1},
		{number{0, 3}, number{0, 512}, 8, 1}, {number{1, 3}, number{0, 512}, 8, 2}, {number{0, 1}, number{0, 4096}, 32, 1 << 20}, {number{0, 2}, number{0, 3}, 8, 171},
		{number{1, 1}, number{0, 1}, 32, 1 << 32}, {number{1 << 32, 1}, number{0, 1}, 32, 1<<32 + 1}, // just above the whole
	} {
		n, whole := copied(c.n), copied(c.whole)
		if got := n.nearest(whole, c.f); got != c.want {
			t.Errorf("%v of %v, %d: %d, want %d", c.n, c.whole, c.f, got, c.want)
		}
		if wholeOf(n).Cmp(wholeOf(c.n)) != 0 || wholeOf(whole).Cmp(wholeOf(c.whole)) != 0 {
			t.Errorf("%v of %v: changed to %v of %v", c.n, c.whole, n, whole)
		}
	}
}

// What is cut off of an upper end is made up for.
func TestUpperEndsAreNotBelow(t *testing.T) {
	least := Interval{low: number{1, 0}, high: number{1, 0}}
	part := newInterval(1)
	part.putPart(least, 2)
	least.halve(1)
	for _, i := range []Interval{part, least} {
		if wholeOf(i.low).Sign() != 0 || wholeOf(i.high).Cmp(big.NewInt(1)) < 0 {
			t.Errorf("the half of the least is from %v to %v", i.low, i.high)
		}
	}
}
