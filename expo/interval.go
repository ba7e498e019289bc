package expo

import "iter"

// An interval is where a real number lies: not below low, not above high. Its methods leave their answers in it; both ends are its own.
type interval struct {
	low, high number
}

func newInterval(limbs int) interval {
	return interval{low: make(number, limbs+1), high: make(number, limbs+1)}
}

// upToTwo is from 0 to 2: what is known of the rest of a series.
func upToTwo(limbs int) interval {
	i := newInterval(limbs)
	i.high.put(2, 1)
	return i
}

func (i interval) put(p, q uint64) {
	i.low.put(p, q)
	copy(i.high, i.low)
	i.high.addLeast()
}

func (i interval) add(o interval) {
	i.low.add(o.low)
	i.high.add(o.high)
}

func (i interval) addOne() {
	i.low.addOne()
	i.high.addOne()
}

func (i *interval) takeFromOne() {
	i.low.takeFromOne()
	i.high.takeFromOne()
	i.low, i.high = i.high, i.low
}

func (i interval) multiply(o interval) {
	i.low.multiply(o.low)
	i.high.multiply(o.high)
	i.high.addLeast()
}

// narrower tells where a real number lies, by one limb more each time.
func narrower(about func(limbs int) interval) iter.Seq[interval] {
	return func(yield func(interval) bool) {
		for limbs := 1; yield(about(limbs)); limbs++ {
		}
	}
}

// settled ends: a real number that is no half has an interval that holds none.
func settled(about func(limbs int) interval, f int) int64 {
	word := int64(0)
	for i := range narrower(about) {
		word = i.low.word(f)
		if word == i.high.word(f) {
			break
		}
	}
	return word
}
