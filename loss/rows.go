package loss

import (
	"iter"
	"slices"

	"ratchet/api"
	"ratchet/interval"
)

func areLabels(labels []int, rows, columns int) bool {
	return len(labels) == rows && !slices.ContainsFunc(labels, func(label int) bool { return label < 0 || label >= columns })
}

// rowsOf tells of each row how far its words are above the label's: ln of the sum of the powers of e of these is what the row costs.
func rowsOf(t api.Tensor, labels []int) iter.Seq[[]int64] {
	return func(yield func([]int64) bool) {
		length := t.Shape[1]
		for n, label := range labels {
			if !yield(above(t.Data[n*length:(n+1)*length], label)) {
				return
			}
		}
	}
}

func above(words []int64, label int) []int64 {
	var list []int64
	for _, a := range words {
		list = append(list, a-words[label])
	}
	return list
}

// A cost is what so many rows have in whole words: their greatest ones together. The power of each stands for 1 in its row's sum, so that only the ln of the sums is to be added.
type cost struct {
	rows, greatest int64
}

func costOf(rows iter.Seq[[]int64]) cost {
	var c cost
	for words := range rows {
		c.rows++
		c.greatest += slices.Max(words)
	}
	return c
}

// mean is the whole number nearest to the rows' mean, ln being in half words and rounded down. A half goes up: no mean is one, so where an interval begins with one the mean is above it.
func (c cost) mean(ln int64) int64 { return (2*c.greatest + ln + c.rows) / (2 * c.rows) }

// meanCost goes through all rows once more for each interval, till both its ends have one mean.
func meanCost(rows iter.Seq[[]int64], f int) int64 {
	c, told := costOf(rows), int64(0)
narrower:
	for sum := range interval.LogSums(rows, f) {
		low, high := sum.Down(f + 1)
		if told = c.mean(low); told == c.mean(high) {
			break narrower
		}
	}
	return told
}
