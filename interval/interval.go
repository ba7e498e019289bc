// Package interval: where real numbers lie, as narrowly as is asked for. Expo, curve, soft and loss round these numbers to words.
package interval

import "iter"

// An Interval is where a real number lies that is from 0 to below 2^63: not below low, not above high. Its methods leave their answers in it; both ends are its own.
type Interval struct {
	low, high number
}

func newInterval(limbs int) Interval {
	return Interval{low: make(number, limbs+1), high: make(number, limbs+1)}
}

// upToTwo is from 0 to 2: what is known of the rest of a series.
func upToTwo(limbs int) Interval {
	i := newInterval(limbs)
	i.high.put(2, 1)
	return i
}

// upToLeast is from 0 to the least that the limbs tell.
func upToLeast(limbs int) Interval {
	i := newInterval(limbs)
	i.high.addLeast()
	return i
}

// one is 1, and nothing beside it.
func one(limbs int) Interval {
	i := newInterval(limbs)
	i.addOne()
	return i
}

func (i Interval) put(p, q uint64) {
	i.low.put(p, q)
	copy(i.high, i.low)
	i.high.addLeast()
}

// putPart leaves o / n in i, for an n above 0.
func (i Interval) putPart(o Interval, n uint64) {
	i.low.putPart(o.low, n)
	i.high.putPart(o.high, n)
	i.high.addLeast()
}

func (i Interval) Add(o Interval) {
	i.low.add(o.low)
	i.high.add(o.high)
}

func (i Interval) addOne() {
	i.low.addWhole(1)
	i.high.addWhole(1)
}

// takeOne needs an interval that is not below 1.
func (i Interval) takeOne() {
	i.low.takeOne()
	i.high.takeOne()
}

// takeFromOne needs an interval that is not above 1.
func (i *Interval) takeFromOne() {
	i.low.takeFromOne()
	i.high.takeFromOne()
	i.low, i.high = i.high, i.low
}

func (i Interval) Multiply(o Interval) {
	i.low.multiply(o.low)
	i.high.multiply(o.high)
	i.high.addLeast()
}

// Share makes i / (n + i) of i, for an n above 0, and an n + i below 2^63. A greater i has a greater share: so each end has its own.
func (i Interval) Share(n uint64) {
	i.low.share(n)
	i.high.share(n)
	i.high.addLeast()
}

// halve does so as often as times tells, which is to be below 64.
func (i Interval) halve(times int) {
	i.low.halve(times)
	i.high.halve(times)
	i.high.addLeast()
}

// Powers tells where e^(a / 2^f) lies, more and more narrowly. The exponent is to be from -64 to 43: so the power is below 2^63.
func Powers(a int64, f int) iter.Seq[Interval] { return narrower(powerOf(a, f).about) }

// Logarithms tells where ln(greater / lower) lies, more and more narrowly. Both are to be words above 0, and the lower one not the greater.
func Logarithms(greater, lower int64) iter.Seq[Interval] {
	return narrower(logarithmOf(greater, lower).about)
}

// narrower tells where real numbers lie, by one limb more each time.
func narrower[T any](about func(limbs int) T) iter.Seq[T] {
	return func(yield func(T) bool) {
		for limbs := 1; yield(about(limbs)); limbs++ {
		}
	}
}

// Word is the whole number nearest to 2^f times the real number, if the interval tells: for all that are no words it is 2^47, the least of them.
func (i Interval) Word(f int) (int64, bool) {
	word := i.low.word(f)
	if word != i.high.word(f) {
		return 0, false
	}
	return word, true
}

// Down is the whole numbers that 2^f times both ends are rounded down to, which are to be below 2^63.
func (i Interval) Down(f int) (low, high int64) { return i.low.down(f), i.high.down(f) }

// Settled is the whole number nearest to 2^f times the real number that the intervals close in on: for all that are no words it is 2^47, the least of them.
// It ends, as a real number that is no half has an interval that holds none.
func Settled(narrower iter.Seq[Interval], f int) int64 {
	for i := range narrower {
		if word, ok := i.Word(f); ok {
			return word
		}
	}
	return 0
}
