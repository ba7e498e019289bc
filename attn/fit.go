package attn

import (
	"slices"

	"ratchet/api"
)

// areRows is whether q has as many words in a row as k, and k as many rows as v.
func areRows(q, k, v api.Tensor) bool {
	return isMatrix(q) && isMatrix(k) && isMatrix(v) && q.Shape[1] == k.Shape[1] && k.Shape[0] == v.Shape[0]
}

// areWeights is whether all of list are square, of as many rows as x has words in one.
func areWeights(x api.Tensor, list ...api.Tensor) bool {
	if !isMatrix(x) {
		return false
	}
	square := []int{x.Shape[1], x.Shape[1]}
	return !slices.ContainsFunc(list, func(w api.Tensor) bool { return !slices.Equal(w.Shape, square) })
}

func isMatrix(t api.Tensor) bool { return len(t.Shape) == 2 }

func divides(heads, n int) bool { return heads >= 1 && n%heads == 0 }

// allows is whether mask has so many rows and columns, and a place that is not 0 in each row.
func allows(mask []int, rows, columns int) bool {
	if len(mask) != rows*columns {
		return false
	}
	all := true
rows:
	for row := range slices.Chunk(mask, columns) {
		for _, place := range row {
			if place != 0 {
				continue rows
			}
		}
		all = false
		break rows
	}
	return all
}
