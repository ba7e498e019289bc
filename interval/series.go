package interval

import "math/bits"

// How many terms a limb asks for. With any other count the intervals are as true: with fewer terms they are wide, with more they get no narrower.
const (
	powerTerms  = 9  // each at least 2^6 times less, and j! less in all
	artanhTerms = 21 // each at least 9 times less
)

// Exponents are halved till they are below 2^-halvings.
const halvings = 6

// A power is e^(size / 2^f), or 1 over it.
type power struct {
	size  uint64
	f     int
	below bool
}

func powerOf(a int64, f int) power {
	if a < 0 {
		return power{size: uint64(-a), f: f, below: true}
	}
	return power{size: uint64(a), f: f}
}

// about halves the exponent x, and squares as often. In between e^x is 1 + x/1 (1 + x/2 (1 + x/3 ( .. ))), where the innermost bracket is from 0 to 2; so it is with -x.
func (p power) about(limbs int) Interval {
	switch {
	case p.size == 0:
		return one(limbs)
	case p.below && p.size>>p.f >= uint64(64*limbs): // e is above 2
		return upToLeast(limbs)
	}
	times := bits.Len64(p.size>>p.f) + halvings
	sum, x, step := upToTwo(limbs), newInterval(limbs), newInterval(limbs)
	x.put(p.size, 1<<(p.f+times))
	for j := powerTerms * limbs; j > 0; j-- {
		step.putPart(x, uint64(j))
		sum.Multiply(step)
		if p.below {
			sum.takeFromOne()
		} else {
			sum.addOne()
		}
	}
	for range times {
		sum.Multiply(sum)
	}
	return sum
}

// A logarithm is ln(2^doublings times above / below), where above is not less than below, and less than twice as much.
type logarithm struct {
	above, below, doublings uint64
}

func logarithmOf(greater, lower int64) logarithm {
	n := bits.Len64(uint64(greater)) - bits.Len64(uint64(lower))
	if lower<<n > greater {
		n--
	}
	return logarithm{above: uint64(greater), below: uint64(lower) << n, doublings: uint64(n)}
}

// about reckons by ln(p / q), which is twice artanh of (p - q) / (p + q), and so by a third for ln 2.
func (l logarithm) about(limbs int) Interval {
	sum := newInterval(limbs)
	sum.put(l.above-l.below, l.above+l.below)
	sum.unfold(l.doublings)
	return sum
}

// unfold makes ln(2^doublings y) of (y - 1) / (y + 1), for a y from 1 to 2, or just above it.
func (i Interval) unfold(doublings uint64) {
	limbs := len(i.low) - 1
	doubling, times := newInterval(limbs), newInterval(limbs)
	i.Artanh()
	doubling.put(1, 3)
	doubling.Artanh()
	times.put(doublings, 1)
	doubling.Multiply(times)
	i.Add(doubling)
	i.Add(i)
}

// Logarithm makes ln i of i, for an i that is not below 1. As ln 1 is 0, what is not below 1 by its lower end has no logarithm's lower end below 0.
func (i Interval) Logarithm() {
	doublings := bits.Len64(i.low[len(i.low)-1]) - 1
	i.halve(doublings)
	i.takeOne()
	i.Share(2)
	i.unfold(uint64(doublings))
}

// Artanh makes artanh z of z, for a z that is a third at most, or just above it: z (1 + z^2 (1/3 + z^2 (1/5 + .. ))), where the innermost bracket is from 0 to 2.
func (z Interval) Artanh() {
	limbs := len(z.low) - 1
	square, part, sum := newInterval(limbs), newInterval(limbs), upToTwo(limbs)
	square.Add(z)
	square.Multiply(z)
	for j := artanhTerms * limbs; j > 0; j-- {
		part.put(1, uint64(2*j-1))
		sum.Multiply(square)
		sum.Add(part)
	}
	z.Multiply(sum)
}
