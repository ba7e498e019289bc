package soft_test

import (
	"math"
	"math/big"
	"slices"
	"testing"

	"ratchet/api"
	"ratchet/sample"
)

// Powers are off by less than 2^-slack of their bits: what is off a half of a word by less than that is not known.
const slack = 128

// scales are the roots that powers are put together of: e^-(2^k / 2^f) for all bits k of words that are up to 2^48 apart, to so many bits.
type scales struct {
	f     int
	prec  uint
	roots []*big.Float
}

func (s scales) real(x float64) *big.Float { return new(big.Float).SetPrec(s.prec).SetFloat64(x) }

func (s scales) whole(x int64) *big.Float { return s.real(0).SetInt64(x) }

// scalesOf reckons the first one by its series, as its exponent is small, and each other one by a square.
func scalesOf(f int, prec uint) scales {
	s := scales{f: f, prec: prec}
	step := s.real(-1)
	step.SetMantExp(step, -f)
	root, term := s.real(1), s.real(1)
	for j := int64(1); term.MantExp(nil) > -int(prec); j++ {
		term.Quo(term.Mul(term, step), s.whole(j))
		root.Add(root, term)
	}
	s.roots = append(s.roots, root)
	for range api.Bits {
		root = s.real(0).Mul(root, root)
		s.roots = append(s.roots, root)
	}
	return s
}

// below is e^-(d / 2^f), d being no less than 0: or 0, where that is far below what the bits tell of sums.
func (s scales) below(d int64) *big.Float {
	power := s.real(1)
	for k, root := range s.roots {
		if d>>k&1 == 1 {
			power.Mul(power, root)
		}
	}
	if power.MantExp(nil) < -2*int(s.prec) {
		return s.real(0)
	}
	return power
}

func (s scales) power(d int64) *big.Float {
	if d <= 0 {
		return s.below(-d)
	}
	power := s.real(1)
	return power.Quo(power, s.below(d))
}

// sum is that of the powers of words, over the greatest one's.
func (s scales) sum(words []int64) *big.Float {
	sum, greatest := s.real(0), slices.Max(words)
	for _, a := range words {
		sum.Add(sum, s.below(greatest-a))
	}
	return sum
}

func (s scales) isKnown(t *testing.T, off *big.Float) {
	t.Helper()
	if off.Sign() == 0 || off.MantExp(nil) < slack-int(s.prec) {
		t.Fatal("a half, or as good as that")
	}
}

// nearest is the whole number next to x, which is not below 0. That x is too close to a half for what is known of it is the test's own fault.
func (s scales) nearest(t *testing.T, x *big.Float) int64 {
	t.Helper()
	down, _ := x.Int64()
	off := s.real(0).Sub(x, s.whole(down))
	s.isKnown(t, off.Sub(off, s.real(0.5)))
	if off.Sign() > 0 {
		return down + 1
	}
	return down
}

// sharesOf are of words that are not all equal; of equal ones it is one of so many, and so rounded as whole numbers are.
func sharesOf(t *testing.T, s scales, words []int64) []int64 {
	t.Helper()
	if n := int64(len(words)); slices.Max(words) == slices.Min(words) {
		share := (2<<s.f + n) / (2 * n)
		if (2<<s.f+n)%(2*n) == 0 && share%2 == 1 {
			share--
		}
		return slices.Repeat([]int64{share}, len(words))
	}
	var list []int64
	sum, greatest := s.sum(words), slices.Max(words)
	for _, a := range words {
		x := s.below(greatest - a)
		list = append(list, s.nearest(t, x.SetMantExp(x.Quo(x, sum), s.f)))
	}
	return list
}

// logOf looks for the first word behind whose half the sum does not lie: odd parts of 2^(f+1) are halves.
func logOf(t *testing.T, s, halves scales, words []int64) (int64, api.Errno) {
	t.Helper()
	greatest, sum := slices.Max(words), s.sum(words)
	about, _ := sum.Float64()
	above := int64(math.Ldexp(math.Log(about), s.f)) - 2
	for before := true; before; above++ {
		off := halves.power(2*above + 1)
		s.isKnown(t, off.Sub(off, sum))
		before = off.Sign() < 0
	}
	if greatest+above-1 > sample.Most {
		return 0, api.ErrOver
	}
	return greatest + above - 1, api.OK
}

// near is words below 0 that are so many, and 0: their powers are together as little below a sum as they can be, if all but the last one are taken as they fit.
func near(s scales, sum *big.Float, many int) []int64 {
	words, rest := []int64{0}, s.real(0).Sub(sum, s.real(1))
	for len(words) <= many {
		part, e := rest.MantExp(nil), s.real(0)
		fraction, _ := e.SetMantExp(rest, -part).Float64()
		d := -int64(math.Ldexp(math.Log(fraction)+float64(part)*math.Ln2, s.f)) - 2
		for s.below(max(d, 0)).Cmp(rest) > 0 {
			d++
		}
		words, rest = append(words, -max(d, 0)), rest.Sub(rest, s.below(max(d, 0)))
	}
	return words
}
