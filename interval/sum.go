package interval

import (
	"iter"
	"slices"
)

// A Sum is where powers of e lie, and where all of them together.
type Sum struct {
	powers []Interval
	all    Interval
}

// Sums tells where the powers e^(a / 2^f) of some words lie, each over the greatest of them, more and more narrowly.
func Sums(words []int64, f int) iter.Seq[Sum] {
	return narrower(func(limbs int) Sum { return sumOf(words, f, limbs) })
}

// LogSums tells where the logarithms of such sums lie together, one for each row of words, more and more narrowly.
func LogSums(rows iter.Seq[[]int64], f int) iter.Seq[Interval] {
	return narrower(func(limbs int) Interval {
		all := newInterval(limbs)
		for words := range rows {
			all.Add(sumOf(words, f, limbs).Logarithm())
		}
		return all
	})
}

func sumOf(words []int64, f, limbs int) Sum {
	s, greatest := Sum{all: newInterval(limbs)}, slices.Max(words)
	for _, a := range words {
		power := powerOf(a-greatest, f).about(limbs)
		s.powers = append(s.powers, power)
		s.all.Add(power)
	}
	return s
}

// Shares are the whole numbers nearest to 2^f times what each power is of the sum, if the intervals tell all of them.
// A half goes down: a share is one only where 2^(f+1) words are equal and there are no others, so that each has the half of 1; to even that goes down, too. Others beside them, however little they have, only make it less.
func (s Sum) Shares(f int) ([]int64, bool) {
	var list []int64
	for _, power := range s.powers {
		share := power.low.nearest(s.all.high, f)
		if share != power.high.nearest(s.all.low, f) {
			return nil, false
		}
		list = append(list, share)
	}
	return list, true
}

// Logarithm is where ln of the sum lies.
func (s Sum) Logarithm() Interval {
	i := newInterval(len(s.all.low) - 1)
	i.Add(s.all)
	i.Logarithm()
	return i
}
