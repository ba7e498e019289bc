package norm

import (
	"ratchet/api"
	"ratchet/wide"
)

// A row is what n words have in common, in whole numbers: their sum, and n^2 4^f (v + e).
type row struct {
	n, sum int64
	square api.Wide
	f      int
}

// rowOf sums each word times its distance: as the distances are together 0, that is n^2 4^f v. Each such product is below 2^107 in size, and n^2 eps 2^f below 2^103, so there is no error.
func rowOf(words []int64, eps int64, f int) row {
	r := row{n: int64(len(words)), f: f}
	for _, a := range words {
		r.sum += a
	}
	r.square, _ = wide.Left(wide.Mul(r.n*r.n, eps), f)
	for _, a := range words {
		r.square, _ = wide.Add(r.square, wide.Mul(a, r.distance(a)))
	}
	return r
}

// distance is how far a lies from the mean, n times.
func (r row) distance(a int64) int64 { return r.n*a - r.sum }

func (r row) norm(a int64) int64 {
	d := r.distance(a)
	if d < 0 {
		return -r.nearest(-d)
	}
	return r.nearest(d)
}

// nearest is R(2^f d over the root of square), for a d that is not below 0: the greatest whole number that has its lower half below that, bit by bit. Halves and that are held against each other as the squares of their doubles, times square.
// It is below 2^(f + 6), as d^2 is at most n - 1 times square, and n at most 2^12.
func (r row) nearest(d int64) int64 {
	four, _ := wide.Left(wide.From(1), 2*r.f+2)
	whole := times(wide.Mul(d, d), four)
	k := int64(0)
search:
	for bit := int64(1) << (r.f + 5); bit > 0; bit /= 2 {
		next := k + bit
		half := 2*next - 1
		switch times(wide.Mul(half, half), r.square).compare(whole) {
		case 0: // just a half: of the two beside it the even one
			k = next - next%2
			break search
		case -1:
			k = next
		}
	}
	return k
}
