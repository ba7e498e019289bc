// Package interval: where real numbers lie, as narrowly as is asked for. Expo and curve round these numbers to words.
package interval

import "iter"

// An Interval is where a real number lies that is from 0 to below 2^63: not below low, not above high. Its methods leave their answers in it; both ends are its own.
type Interval struct {
	low, high number
}

func newInterval(limbs int) Interval {
	return Interval{low: make(number, limbs+1), high: make(number, limbs+1)}
}

// upToTwo is from 0 to 2: what is known of the rest of a series.
func upToTwo(limbs int) Interval {
	i := newInterval(limbs)
	i.high.put(2, 1)
	return i
}

func (i Interval) put(p, q uint64) {
	i.low.put(p, q)
	copy(i.high, i.low)
	i.high.addLeast()
}

func (i Interval) Add(o Interval) {
	i.low.add(o.low)
	i.high.add(o.high)
}

func (i Interval) addOne() {
	i.low.addWhole(1)
	i.high.addWhole(1)
}

// takeFromOne needs an interval that is not above 1.
func (i *Interval) takeFromOne() {
	i.low.takeFromOne()
	i.high.takeFromOne()
	i.low, i.high = i.high, i.low
}

func (i Interval) Multiply(o Interval) {
	i.low.multiply(o.low)
	i.high.multiply(o.high)
	i.high.addLeast()
}

// Share makes i / (n + i) of i, for an n above 0, and an n + i below 2^63. A greater i has a greater share: so each end has its own.
func (i Interval) Share(n uint64) {
	i.low.share(n)
	i.high.share(n)
	i.high.addLeast()
}

// Powers tells where e^(a / 2^f) lies, more and more narrowly. The exponent is to be from -64 to 43: so the power is below 2^63.
func Powers(a int64, f int) iter.Seq[Interval] { return narrower(powerOf(a, f).about) }

// Logarithms tells where ln(greater / lower) lies, more and more narrowly. Both are to be words above 0, and the lower one not the greater.
func Logarithms(greater, lower int64) iter.Seq[Interval] {
	return narrower(logarithmOf(greater, lower).about)
}

// narrower tells where a real number lies, by one limb more each time.
func narrower(about func(limbs int) Interval) iter.Seq[Interval] {
	return func(yield func(Interval) bool) {
		for limbs := 1; yield(about(limbs)); limbs++ {
		}
	}
}

// Settled is the whole number nearest to 2^f times the real number that the intervals close in on: for all that are no words it is 2^47, the least of them.
// It ends, as a real number that is no half has an interval that holds none.
func Settled(narrower iter.Seq[Interval], f int) int64 {
	word := int64(0)
	for i := range narrower {
		word = i.low.word(f)
		if word == i.high.word(f) {
			break
		}
	}
	return word
}
