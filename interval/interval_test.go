package interval

import (
	"iter"
	"math/big"
	"testing"
)

const prec = 600

func float(x int64) *big.Float { return new(big.Float).SetPrec(prec).SetInt64(x) }

func quotient(p, q int64) *big.Float { return float(0).Quo(float(p), float(q)) }

func valueOf(n number) *big.Float {
	sum := float(0)
	for at := len(n) - 1; at >= 0; at-- {
		limb := new(big.Float).SetPrec(prec).SetUint64(n[at])
		sum.Add(sum, limb.SetMantExp(limb, 64*(at-len(n)+1)))
	}
	return sum
}

// about holds that a real number lies in the interval, and that all but 24 bits of its limbs tell where.
func about(t *testing.T, what string, i Interval, x *big.Float) {
	t.Helper()
	low, high := valueOf(i.low), valueOf(i.high)
	if x.Cmp(low) < 0 || x.Cmp(high) > 0 {
		t.Errorf("%s: %s is not from %s to %s", what, x.String(), low.String(), high.String())
	}
	width := float(0).Quo(float(0).Sub(high, low), float(0).Add(float(1), x))
	if limbs := len(i.low) - 1; width.Sign() != 0 && width.MantExp(nil) > 24-64*limbs {
		t.Errorf("%s: from %s to %s is too wide for %d limbs", what, low.String(), high.String(), limbs)
	}
}

// someOf are the first few intervals, of as many limbs as they are the how-manieth.
func someOf(t *testing.T, what string, narrower iter.Seq[Interval], x *big.Float) {
	t.Helper()
	limbs := 0
	for i := range narrower {
		limbs++
		if len(i.low) != limbs+1 || len(i.high) != limbs+1 {
			t.Errorf("%s: %d and %d limbs, want %d", what, len(i.low), len(i.high), limbs+1)
		}
		about(t, what, i, x)
		if limbs == 5 {
			break
		}
	}
}

// expOf is e^x: the series, of x over 2^20, and squares.
func expOf(x *big.Float) *big.Float {
	part := float(0).SetMantExp(x, -20)
	sum, term := float(1), float(1)
	for j := int64(1); j < 60; j++ {
		term.Mul(term, part)
		term.Quo(term, float(j))
		sum.Add(sum, term)
	}
	for range 20 {
		sum.Mul(sum, sum)
	}
	return sum
}

func lnOf(x *big.Float) *big.Float {
	y, doublings := float(0).Set(x), int64(0)
	for y.Cmp(float(2)) >= 0 {
		y.Quo(y, float(2))
		doublings++
	}
	half := artanhOf(float(0).Quo(float(0).Sub(y, float(1)), float(0).Add(y, float(1))))
	half.Add(half, float(0).Mul(float(doublings), artanhOf(quotient(1, 3))))
	return half.Mul(half, float(2))
}

func artanhOf(z *big.Float) *big.Float {
	sum, power, square := float(0), float(0).Set(z), float(0).Mul(z, z)
	for j := int64(1); j < 500; j += 2 {
		sum.Add(sum, float(0).Quo(power, float(j)))
		power.Mul(power, square)
	}
	return sum
}

func fractions() [][2]int64 {
	return [][2]int64{{0, 1}, {1, 1}, {1, 2}, {1, 3}, {2, 3}, {1, 1 << 40}, {1<<40 - 1, 1 << 40}, {12345, 98765}, {98765, 12345}, {1 << 40, 3}, {1, 1<<62 - 1}}
}

func TestShare(t *testing.T) {
	for _, c := range fractions() {
		for _, n := range []int64{1, 2, 3, 1 << 20} {
			for limbs := 1; limbs < 6; limbs++ {
				i := newInterval(limbs)
				i.put(uint64(c[0]), uint64(c[1]))
				i.Share(uint64(n))
				x := quotient(c[0], c[1])
				about(t, "Share", i, x.Quo(x, float(0).Add(float(n), x)))
			}
		}
	}
}

// Each end has its own share: that of a wide interval is from the one to the other.
func TestShareOfAWideInterval(t *testing.T) {
	i := upToTwo(3)
	i.Share(2)
	if valueOf(i.low).Sign() != 0 || valueOf(i.high).Cmp(quotient(1, 2)) < 0 {
		t.Errorf("from %s to %s", valueOf(i.low).String(), valueOf(i.high).String())
	}
}

func TestArtanh(t *testing.T) {
	for _, c := range [][2]int64{{0, 1}, {1, 3}, {1, 4}, {1, 1000}, {333333333, 1000000000}, {1, 1 << 40}} {
		for limbs := 1; limbs < 6; limbs++ {
			i := newInterval(limbs)
			i.put(uint64(c[0]), uint64(c[1]))
			i.Artanh()
			about(t, "Artanh", i, artanhOf(quotient(c[0], c[1])))
		}
	}
}

func TestPowers(t *testing.T) {
	for _, f := range []int{8, 17, 32} {
		for _, x := range []int64{0, 1, -1, 1 << f, -1 << f, 10000, -12345, 3<<f + 1, -3<<f - 1, 10 << f, -40 << f} {
			someOf(t, "Powers", Powers(x, f), expOf(quotient(x, 1<<f)))
		}
	}
}

func TestOneIsItsOwnPower(t *testing.T) {
	for i := range Powers(0, 17) {
		if valueOf(i.low).Cmp(float(1)) != 0 || valueOf(i.high).Cmp(float(1)) != 0 {
			t.Errorf("from %s to %s", valueOf(i.low).String(), valueOf(i.high).String())
		}
		if len(i.low) > 5 {
			break
		}
	}
}

// Powers far below 1 are told, too, where so many limbs tell anything of them.
func TestFarPowers(t *testing.T) {
	for _, c := range []struct {
		a int64
		f int
	}{{-63 << 8, 8}, {-64 << 8, 8}, {-65 << 8, 8}, {-89 << 17, 17}, {-200<<32 - 7, 32}, {-1 << 20, 8}, {-1 << 48, 8}, {-1<<48 + 2, 8}, {-1<<48 + 2, 32}} {
		x := float(0)
		if c.a > -1<<48 && c.a>>c.f > -1000 {
			x = expOf(quotient(c.a, 1<<c.f))
		}
		someOf(t, "Powers", Powers(c.a, c.f), x)
	}
}

func TestLogarithms(t *testing.T) {
	for _, c := range [][2]int64{{1, 1}, {2, 1}, {3, 2}, {1<<47 - 1, 1}, {1<<47 - 1, 1 << 46}, {1 << 46, 1}, {257, 256}, {511, 256}, {100, 7}} {
		someOf(t, "Logarithms", Logarithms(c[0], c[1]), lnOf(quotient(c[0], c[1])))
	}
}

func TestLogarithm(t *testing.T) {
	for _, c := range [][2]int64{{1, 1}, {2, 1}, {3, 2}, {4096, 1}, {4095, 1}, {1<<40 + 1, 1 << 40}, {1<<40 - 1, 1 << 39}, {1<<40 + 1, 1 << 39}, {100, 7}} {
		for limbs := 1; limbs < 6; limbs++ {
			i := newInterval(limbs)
			i.put(uint64(c[0]), uint64(c[1]))
			i.Logarithm()
			about(t, "Logarithm", i, lnOf(quotient(c[0], c[1])))
		}
	}
}

// The ends may have a power of 2 between them.
func TestLogarithmOfAWideInterval(t *testing.T) {
	for _, power := range []uint64{2, 4, 1024} {
		i := newInterval(2)
		i.low.put(power*1000-1, 1000)
		i.high.put(power*1000+1, 1000)
		i.Logarithm()
		for _, off := range []int64{-1, 0, 1} {
			x := lnOf(quotient(int64(power)*1000+off, 1000))
			if x.Cmp(valueOf(i.low)) < 0 || x.Cmp(valueOf(i.high)) > 0 {
				t.Errorf("about %d: %s is not from %s to %s", power, x.String(), valueOf(i.low).String(), valueOf(i.high).String())
			}
		}
	}
}

// tries counts how many intervals Settled asks for, till both ends are one word.
func tries(t *testing.T, f int, want int64, ends ...[2]uint64) int {
	t.Helper()
	asked := 0
	got := Settled(func(yield func(Interval) bool) {
		for _, c := range ends {
			asked++
			if i := (Interval{low: number{c[0], 0}, high: number{c[1], 0}}); !yield(i) {
				return
			}
		}
	}, f)
	if got != want {
		t.Errorf("%d, want %d", got, want)
	}
	return asked
}

func TestSettledStopsAtTheFirstThatTells(t *testing.T) {
	const half = 1 << 63 >> 8 // of a word of 8 bits
	if n := tries(t, 8, 3, [2]uint64{4 * half, 8 * half}, [2]uint64{5*half - 1, 6 * half}, [2]uint64{5 * half, 7*half - 1}, [2]uint64{6 * half, 6 * half}); n != 3 {
		t.Errorf("%d intervals were asked for", n)
	}
	if n := tries(t, 8, 0, [2]uint64{0, half - 1}, [2]uint64{0, 0}); n != 1 {
		t.Errorf("%d intervals were asked for", n)
	}
}

func TestSettledOfWhatIsNoWord(t *testing.T) {
	for _, a := range []int64{28 << 8, 30 << 8, 40 << 8} {
		if got := Settled(Powers(a, 8), 8); got != 1<<47 {
			t.Errorf("e^(%d / 2^8): %d", a, got)
		}
	}
}
