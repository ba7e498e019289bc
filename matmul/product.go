package matmul

import (
	"slices"

	"ratchet/api"
	"ratchet/shape"
	"ratchet/wide"
)

// A product is what the shapes tell of it. A block is the rows of the first factor, so many, that one matrix of the second one meets: all of them, if it is one matrix for all.
type product struct {
	shape                []int
	rows, depth, columns int
}

func productOf(a, b []int) (product, api.Errno) {
	if !fit(a, b) {
		return product{}, api.ErrShape
	}
	last := len(a) - 1
	p := product{shape: slices.Clone(a), rows: a[last-1], depth: a[last], columns: b[len(b)-1]}
	p.shape[last] = p.columns
	if shape.Check(p.shape) != api.OK {
		return product{}, api.ErrBudget
	}
	if len(b) == 2 {
		p.rows, _ = shape.Count(a[:last])
	}
	return p, api.OK
}

func fit(a, b []int) bool {
	if len(a) < 2 || len(b) != 2 && len(b) != len(a) {
		return false
	}
	ahead := len(b) - 2
	return slices.Equal(a[:ahead], b[:ahead]) && a[len(a)-1] == b[ahead]
}

// sums are those of one row with each column of a matrix. The matrix is gone through as it lies, row by row.
func (p product) sums(row, matrix []int64) []api.Wide {
	list := make([]api.Wide, p.columns)
	for k, x := range row {
		for j, y := range matrix[k*p.columns:][:p.columns] {
			// At most 2^12 products, each below 2^94: so there is no error.
			list[j], _ = wide.Add(list[j], wide.Mul(x, y))
		}
	}
	return list
}
