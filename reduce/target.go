package reduce

import (
	"slices"

	"ratchet/api"
	"ratchet/elem"
	"ratchet/shape"
)

// A target is where the words of the shape from go: others are the dimensions that stay, and count is theirs. Ones has a 1 for each that goes, so that shape.Under tells where.
type target struct {
	from, ones, others []int
	count              int
}

func reduced(t api.Tensor, axes []int) (target, api.Errno) {
	if e := elem.Check(t); e != api.OK {
		return target{}, e
	}
	if !areAxes(axes, len(t.Shape)) {
		return target{}, api.ErrShape
	}
	to := target{from: t.Shape, ones: slices.Clone(t.Shape), count: 1}
	for k, d := range t.Shape {
		if slices.Contains(axes, k) {
			to.ones[k] = 1
			continue
		}
		to.others = append(to.others, d)
		to.count *= d
	}
	return to, api.OK
}

// areAxes looks no further than the first number that is none, so of a long list there is never more to read than a rank.
func areAxes(axes []int, rank int) bool {
	last, are := -1, true
look:
	for _, axis := range axes {
		switch {
		case axis <= last, axis >= rank:
			are = false
			break look
		default:
			last = axis
		}
	}
	return are
}

func (to target) under(i []int) int {
	at, _ := shape.Under(to.ones, to.from, i)
	return at
}
