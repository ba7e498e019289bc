package pool_test

import (
	"math"
	"math/big"
	"slices"
	"testing"

	"ratchet/api"
	"ratchet/conv"
	"ratchet/mixer"
	"ratchet/pool"
	"ratchet/reduce"
	"ratchet/sample"
)

const most = sample.Most

var (
	of, filled, rising, signed  = sample.Of, sample.Filled, sample.Rising, sample.Signed
	indexes, at, places, stands = sample.Indexes, sample.At, sample.Places, sample.Stands
)

func maxIs(t *testing.T, x api.Tensor, c api.Conv, want api.Tensor, wantPicks []int, wantE api.Errno) {
	t.Helper()
	got, picks, e := pool.Max(x, c)
	if e != wantE || !sample.Same(got, want) || !slices.Equal(picks, wantPicks) || e != api.OK && (!sample.IsZero(got) || picks != nil) {
		t.Errorf("Max(%v, %v): %v, %v, %v; want %v, %v, %v", x, c, got, picks, e, want, wantPicks, wantE)
	}
}

func avgIs(t *testing.T, x api.Tensor, c api.Conv, want api.Tensor, wantE api.Errno) {
	t.Helper()
	got, e := pool.Avg(x, c)
	if e != wantE || !sample.Same(got, want) || e != api.OK && !sample.IsZero(got) {
		t.Errorf("Avg(%v, %v): %v, %v; want %v, %v", x, c, got, e, want, wantE)
	}
}

func bothTell(t *testing.T, x api.Tensor, c api.Conv, want api.Errno) {
	t.Helper()
	maxIs(t, x, c, api.Tensor{}, nil, want)
	avgIs(t, x, c, api.Tensor{}, want)
}

// with is c with a kernel.
func with(c api.Conv, kernel ...int) api.Conv {
	c.Kernel = kernel
	return c
}

// line is the numbers of one spatial dimension.
func line(kernel, stride, pad, dilation int) api.Conv {
	return with(sample.Line(stride, pad, dilation), kernel)
}

// plane is those of two, the same ones.
func plane(kernel, stride, pad, dilation int) api.Conv {
	return with(sample.Plane(stride, pad, dilation), kernel, kernel)
}

func planeOf(kernel, stride, pad, dilation []int) api.Conv {
	return with(sample.PlaneOf(stride, pad, dilation), kernel...)
}

// A pooling is a shape that windows go over.
type pooling struct {
	s []int
	c api.Conv
}

// poolings have a tap within at each place.
func poolings() []pooling {
	return []pooling{
		{[]int{1, 1, 5}, line(2, 2, 0, 1)}, {[]int{1, 1, 5}, line(2, 2, 1, 1)}, {[]int{1, 1, 5}, line(2, 1, 0, 1)}, {[]int{1, 3, 5}, line(3, 1, 1, 1)}, {[]int{3, 1, 5}, line(3, 1, 1, 1)}, {[]int{2, 3, 6}, line(2, 2, 1, 1)},
		{[]int{1, 1, 4}, line(1, 1, 0, 1)}, {[]int{2, 3, 4}, line(1, 2, 0, 1)}, {[]int{2, 2, 4}, line(1, 1, 0, 4096)}, {[]int{1, 1, 1}, line(1, 1, 0, 1)}, // of one tap
		{[]int{1, 1, 4}, line(4, 1, 0, 1)}, {[]int{2, 2, 4}, line(6, 1, 1, 1)}, {[]int{2, 1, 3}, line(7, 3, 2, 1)}, {[]int{1, 2, 5}, line(3, 1, 0, 2)}, {[]int{1, 1, 1}, line(3, 1, 1, 1)}, {[]int{1, 1, 1}, line(3, 1, 4096, 4096)}, // as long as the padded row
		{[]int{1, 1, 9}, line(2, 4, 0, 1)}, {[]int{2, 2, 8}, line(1, 3, 0, 1)}, {[]int{1, 2, 7}, line(2, 3, 1, 1)}, {[]int{1, 1, 3}, line(2, 4096, 1, 1)}, // strides above the window
		{[]int{1, 2, 3}, line(4, 1, 3, 1)}, {[]int{1, 1, 1}, line(5, 1, 4, 1)}, {[]int{2, 1, 2}, line(9, 2, 8, 1)}, {[]int{2, 1, 2}, line(7, 4, 6, 1)}, // pads above the row
		{[]int{1, 1, 7}, line(2, 1, 0, 3)}, {[]int{2, 2, 7}, line(3, 1, 2, 2)}, {[]int{1, 2, 6}, line(3, 2, 4, 4)}, {[]int{1, 1, 2}, line(2, 2, 2, 3)}, {[]int{2, 1, 5}, line(4, 1, 6, 5)}, // dilations
		{[]int{1, 1, 6}, line(2, 3, 0, 1)}, {[]int{1, 2, 7}, line(3, 3, 0, 1)}, {[]int{2, 1, 6}, line(3, 2, 0, 1)}, {[]int{1, 1, 6}, line(2, 2, 0, 2)}, // a last place that a stride leaves out
		{[]int{1, 1, 3, 4}, plane(2, 1, 0, 1)}, {[]int{1, 1, 4, 3}, plane(2, 2, 1, 1)}, {[]int{1, 3, 3, 3}, plane(3, 1, 1, 1)}, {[]int{3, 1, 3, 3}, plane(3, 1, 1, 1)}, {[]int{2, 3, 4, 3}, plane(2, 2, 0, 1)}, {[]int{2, 3, 3, 5}, plane(3, 2, 1, 1)},
		{[]int{1, 1, 3, 2}, plane(1, 1, 0, 1)}, {[]int{2, 2, 3, 4}, plane(1, 2, 0, 3)}, {[]int{1, 1, 1, 1}, plane(1, 1, 0, 1)},
		{[]int{1, 1, 3, 4}, planeOf([]int{3, 4}, []int{1, 1}, []int{0, 0}, []int{1, 1})}, {[]int{2, 2, 2, 3}, planeOf([]int{4, 5}, []int{2, 1}, []int{1, 1}, []int{1, 1})}, {[]int{1, 2, 3, 5}, planeOf([]int{2, 3}, []int{1, 1}, []int{0, 0}, []int{2, 2})}, {[]int{1, 1, 1, 1}, plane(3, 1, 4096, 4096)},
		{[]int{1, 2, 5, 4}, planeOf([]int{2, 1}, []int{3, 2}, []int{1, 0}, []int{1, 1})}, {[]int{1, 1, 6, 7}, planeOf([]int{1, 2}, []int{2, 3}, []int{0, 1}, []int{1, 1})},
		{[]int{1, 1, 2, 3}, planeOf([]int{3, 4}, []int{1, 1}, []int{2, 3}, []int{1, 1})}, {[]int{2, 1, 3, 2}, planeOf([]int{1, 3}, []int{1, 1}, []int{0, 2}, []int{1, 1})}, {[]int{1, 2, 2, 3}, planeOf([]int{3, 1}, []int{1, 1}, []int{2, 0}, []int{1, 1})},
		{[]int{1, 1, 5, 6}, planeOf([]int{2, 3}, []int{1, 1}, []int{0, 2}, []int{3, 2})}, {[]int{2, 1, 4, 4}, planeOf([]int{3, 2}, []int{2, 1}, []int{2, 1}, []int{2, 3})}, {[]int{1, 2, 2, 3}, planeOf([]int{2, 2}, []int{2, 1}, []int{2, 0}, []int{3, 1})},
		{[]int{1, 1, 4, 5}, planeOf([]int{2, 2}, []int{3, 2}, []int{0, 0}, []int{1, 1})}, {[]int{2, 2, 5, 3}, planeOf([]int{2, 3}, []int{2, 4096}, []int{0, 1}, []int{1, 1})},
	}
}

// emptyPoolings have a place at which no tap is within.
func emptyPoolings() []pooling {
	return []pooling{
		{[]int{1, 1, 4}, line(1, 1, 1, 1)}, {[]int{1, 1, 4}, line(2, 1, 2, 1)}, {[]int{2, 3, 2}, line(3, 2, 4096, 1)}, {[]int{1, 1, 4}, line(2, 4096, 2, 1)}, {[]int{1, 1, 1}, line(1, 4096, 4096, 4096)}, {[]int{1, 1, 1}, line(4096, 1, 4096, 1)}, // the first one
		{[]int{1, 1, 1}, line(2, 1, 1, 2)}, {[]int{1, 2, 1}, line(2, 4, 1, 2)}, {[]int{1, 1, 2}, line(2, 1, 2, 3)}, {[]int{1, 1, 3}, line(3, 1, 7, 5)}, // between taps
		{[]int{1, 1, 2}, line(2, 2, 3, 4)}, {[]int{2, 2, 2}, line(3, 5, 5, 4)}, // the last one alone
		{[]int{1, 1, 4, 4}, plane(1, 1, 1, 1)}, {[]int{1, 1, 4, 4}, plane(2, 2, 3, 1)}, {[]int{1, 1, 1, 1}, plane(2, 1, 1, 2)}, // along both
		{[]int{1, 1, 4, 4}, planeOf([]int{1, 1}, []int{1, 1}, []int{1, 0}, []int{1, 1})}, {[]int{1, 1, 4, 4}, planeOf([]int{1, 1}, []int{1, 1}, []int{0, 1}, []int{1, 1})}, {[]int{2, 1, 2, 4}, planeOf([]int{2, 2}, []int{1, 1}, []int{2, 1}, []int{3, 1})}, {[]int{1, 2, 4, 2}, planeOf([]int{2, 2}, []int{1, 1}, []int{1, 2}, []int{1, 3})}, {[]int{1, 1, 2, 2}, planeOf([]int{2, 2}, []int{2, 1}, []int{3, 0}, []int{4, 1})}, {[]int{1, 1, 2, 2}, planeOf([]int{2, 2}, []int{1, 2}, []int{0, 3}, []int{1, 4})}, // along one
	}
}

// longPoolings make an answer that has too many words, or a dimension that is none.
func longPoolings() []pooling {
	return []pooling{
		{[]int{1, 1, 4096}, line(2, 1, 1, 1)}, {[]int{1, 1, 2}, line(4096, 1, 4095, 1)}, {[]int{17, 1, 1}, line(4096, 1, 4095, 1)}, {[]int{1, 17, 1}, line(4096, 1, 4095, 1)}, {[]int{256, 1, 256}, line(2, 1, 1, 1)}, {[]int{4, 4, 4096}, line(4, 1, 2, 1)}, {[]int{16, 2, 2048}, line(2, 1, 1, 1)}, {[]int{1, 1, 4096}, line(4096, 1, 4095, 1)},
		{[]int{1, 1, 256, 256}, plane(2, 1, 1, 1)}, {[]int{1, 1, 1, 1}, plane(257, 1, 256, 1)}, {[]int{1, 1, 2, 1}, planeOf([]int{4096, 1}, []int{1, 1}, []int{4095, 0}, []int{1, 1})}, {[]int{1, 1, 1, 2}, planeOf([]int{1, 4096}, []int{1, 1}, []int{0, 4095}, []int{1, 1})}, {[]int{2, 2, 128, 128}, plane(2, 1, 1, 1)}, {[]int{1, 1, 16, 4096}, planeOf([]int{2, 3}, []int{1, 1}, []int{1, 1}, []int{1, 1})}, {[]int{1, 1, 256, 256}, plane(4096, 1, 4095, 1)},
	}
}

// meant is the floor of sum / many and a half, less 1 if that is a half and odd.
func meant(sum *big.Int, many int) int64 {
	twice := new(big.Int).Add(new(big.Int).Lsh(sum, 1), big.NewInt(int64(many)))
	up, rest := new(big.Int).DivMod(twice, big.NewInt(int64(2*many)), new(big.Int))
	if rest.Sign() == 0 && up.Bit(0) == 1 {
		up.Sub(up, big.NewInt(1))
	}
	return up.Int64()
}

// An answer is what both calls tell.
type answer struct {
	greatest, mean api.Tensor
	picks          []int
}

// pooled is word by word what the chapter says, ok if there is a tap within at each place.
func pooled(x api.Tensor, c api.Conv) (want answer, ok bool) {
	l := x.Shape[2:]
	s := append(slices.Clone(x.Shape[:2]), places(l, c.Kernel, c)...)
	want.greatest.Shape, want.mean.Shape = s, s
	for _, i := range indexes(s) {
		sum, on := new(big.Int), []int(nil)
		for _, tap := range indexes(c.Kernel) {
			if where, within := stands(l, i[2:], tap, c); within {
				place := at(x.Shape, i[:2], where)
				sum.Add(sum, big.NewInt(x.Data[place]))
				on = append(on, place)
			}
		}
		if len(on) == 0 {
			return answer{}, false
		}
		slices.Sort(on)
		pick := slices.MaxFunc(on, func(a, b int) int { return int(x.Data[a] - x.Data[b]) }) // the first one of the greatest
		want.greatest.Data = append(want.greatest.Data, x.Data[pick])
		want.picks = append(want.picks, pick)
		want.mean.Data = append(want.mean.Data, meant(sum, len(on)))
	}
	return want, true
}

func holds(t *testing.T, x api.Tensor, c api.Conv) {
	t.Helper()
	want, ok := pooled(x, c)
	if !ok {
		bothTell(t, x, c, api.ErrShape)
		return
	}
	maxIs(t, x, c, want.greatest, want.picks, api.OK)
	avgIs(t, x, c, want.mean, api.OK)
}

// P12.1 and P12.2

func TestPoolsOfAllShapes(t *testing.T) {
	m := mixer.Mixer(121)
	for _, p := range poolings() {
		for _, bits := range []int{0, 1, 2, 5, 20, 47} { // of few bits most words are equal ones
			for range 4 {
				holds(t, sample.Tensor(&m, p.s, bits), p.c)
			}
		}
		for _, x := range []api.Tensor{filled(p.s, most), filled(p.s, -most), filled(p.s, 0), filled(p.s, -1), rising(p.s), signed(&m, p.s)} {
			holds(t, x, p.c)
		}
		if _, e := pool.Avg(filled(p.s, 1), p.c); e != api.OK {
			t.Errorf("%v: %v", p, e)
		}
	}
}

func TestPoolsOverWhatConvolutionsGoOver(t *testing.T) {
	m := mixer.Mixer(122)
	for _, g := range sample.Goings() {
		c := with(g.C, g.W[2:]...)
		for _, bits := range []int{1, 10, 47} {
			holds(t, sample.Tensor(&m, g.X, bits), c)
		}
		holds(t, signed(&m, g.X), c)
	}
}

func TestOneWord(t *testing.T) {
	for _, v := range sample.Edges() {
		for _, p := range poolings() {
			if sample.Count(p.s) > 1 {
				continue
			}
			want, _ := pooled(of(p.s, v), p.c)
			n := len(want.picks)
			maxIs(t, of(p.s, v), p.c, filled(want.greatest.Shape, v), make([]int, n), api.OK)
			avgIs(t, of(p.s, v), p.c, filled(want.greatest.Shape, v), api.OK)
		}
	}
}

func TestExamples(t *testing.T) {
	x := of([]int{1, 1, 5}, 1, 5, 5, 2, 4)
	maxIs(t, x, line(2, 2, 0, 1), of([]int{1, 1, 2}, 5, 5), []int{1, 2}, api.OK)
	maxIs(t, x, line(2, 2, 1, 1), of([]int{1, 1, 3}, 1, 5, 4), []int{0, 1, 4}, api.OK)
	avgIs(t, x, line(2, 2, 1, 1), of([]int{1, 1, 3}, 1, 5, 3), api.OK)
	avgIs(t, x, line(2, 2, 0, 1), of([]int{1, 1, 2}, 3, 4), api.OK) // 3.5, to even
}

func TestOneSpatialDimension(t *testing.T) {
	x := of([]int{1, 1, 6}, 4, -8, 3, 9, 0, 7)
	maxIs(t, x, line(3, 1, 0, 1), of([]int{1, 1, 4}, 4, 9, 9, 9), []int{0, 3, 3, 3}, api.OK)
	avgIs(t, x, line(3, 1, 0, 1), of([]int{1, 1, 4}, 0, 1, 4, 5), api.OK)
	maxIs(t, x, line(2, 4, 0, 1), of([]int{1, 1, 2}, 4, 7), []int{0, 5}, api.OK) // strides above the window
	avgIs(t, x, line(2, 4, 0, 1), of([]int{1, 1, 2}, -2, 4), api.OK)
	maxIs(t, x, line(2, 3, 0, 1), of([]int{1, 1, 2}, 4, 9), []int{0, 3}, api.OK) // a last place that a stride leaves out
	avgIs(t, x, line(2, 3, 0, 1), of([]int{1, 1, 2}, -2, 4), api.OK)
	maxIs(t, x, line(2, 1, 0, 4), of([]int{1, 1, 2}, 4, 7), []int{0, 5}, api.OK) // dilations
	avgIs(t, x, line(2, 1, 0, 4), of([]int{1, 1, 2}, 2, 0), api.OK)
	maxIs(t, x, line(3, 2, 2, 2), of([]int{1, 1, 3}, 4, 4, 3), []int{0, 0, 2}, api.OK)
	avgIs(t, x, line(3, 2, 2, 2), of([]int{1, 1, 3}, 4, 2, 2), api.OK) // 3.5, 7 over 3, 1.5
	maxIs(t, x, line(6, 1, 0, 1), of([]int{1, 1, 1}, 9), []int{3}, api.OK)
	avgIs(t, x, line(6, 1, 0, 1), of([]int{1, 1, 1}, 2), api.OK) // 15 over 6
	maxIs(t, x, line(10, 1, 2, 1), of([]int{1, 1, 1}, 9), []int{3}, api.OK)
	avgIs(t, x, line(10, 1, 2, 1), of([]int{1, 1, 1}, 2), api.OK)
}

func TestTwoSpatialDimensions(t *testing.T) {
	x := of([]int{1, 1, 3, 4}, 1, 2, 3, 4, 8, 7, 6, 5, 9, 10, 11, 12)
	maxIs(t, x, plane(2, 1, 0, 1), of([]int{1, 1, 2, 3}, 8, 7, 6, 10, 11, 12), []int{4, 5, 6, 9, 10, 11}, api.OK)
	avgIs(t, x, plane(2, 1, 0, 1), of([]int{1, 1, 2, 3}, 4, 4, 4, 8, 8, 8), api.OK) // 4.5 and 8.5
	maxIs(t, x, planeOf([]int{1, 2}, []int{2, 2}, []int{0, 0}, []int{1, 1}), of([]int{1, 1, 2, 2}, 2, 4, 10, 12), []int{1, 3, 9, 11}, api.OK)
	maxIs(t, x, planeOf([]int{2, 1}, []int{1, 3}, []int{0, 0}, []int{1, 1}), of([]int{1, 1, 2, 2}, 8, 5, 9, 12), []int{4, 7, 8, 11}, api.OK)
	maxIs(t, x, planeOf([]int{2, 2}, []int{2, 3}, []int{1, 1}, []int{1, 1}), of([]int{1, 1, 2, 2}, 1, 4, 9, 12), []int{0, 3, 8, 11}, api.OK)
	avgIs(t, x, planeOf([]int{2, 2}, []int{2, 3}, []int{1, 1}, []int{1, 1}), of([]int{1, 1, 2, 2}, 1, 4, 8, 8), api.OK) // 3.5, 8.5 over 8 and 9
	maxIs(t, x, planeOf([]int{2, 2}, []int{1, 1}, []int{0, 0}, []int{2, 3}), of([]int{1, 1, 1, 1}, 12), []int{11}, api.OK)
	avgIs(t, x, planeOf([]int{2, 2}, []int{1, 1}, []int{0, 0}, []int{2, 3}), of([]int{1, 1, 1, 1}, 6), api.OK) // 6.5
	maxIs(t, x, planeOf([]int{3, 4}, []int{1, 1}, []int{0, 0}, []int{1, 1}), of([]int{1, 1, 1, 1}, 12), []int{11}, api.OK)
	avgIs(t, x, planeOf([]int{3, 4}, []int{1, 1}, []int{0, 0}, []int{1, 1}), of([]int{1, 1, 1, 1}, 6), api.OK) // 78 over 12
}

func TestPicksOfExamplesAndChannels(t *testing.T) {
	x := of([]int{2, 3, 2}, 1, 2, 4, 3, 5, 5, -1, -2, 0, 7, 9, 8)
	maxIs(t, x, line(2, 1, 0, 1), of([]int{2, 3, 1}, 2, 4, 5, -1, 7, 9), []int{1, 2, 4, 6, 9, 10}, api.OK)
	avgIs(t, x, line(2, 1, 0, 1), of([]int{2, 3, 1}, 2, 4, 5, -2, 4, 8), api.OK)
	y := of([]int{2, 2, 2, 2}, 1, 2, 3, 4, 8, 7, 6, 5, 1, 1, 9, 9, -5, -3, -3, -5)
	maxIs(t, y, plane(2, 1, 0, 1), of([]int{2, 2, 1, 1}, 4, 8, 9, -3), []int{3, 4, 10, 13}, api.OK)
	avgIs(t, y, plane(2, 1, 0, 1), of([]int{2, 2, 1, 1}, 2, 6, 5, -4), api.OK)
	maxIs(t, y, planeOf([]int{1, 2}, []int{1, 1}, []int{0, 0}, []int{1, 1}), of([]int{2, 2, 2, 1}, 2, 4, 8, 6, 1, 9, -3, -3), []int{1, 3, 4, 6, 8, 10, 13, 14}, api.OK)
	maxIs(t, y, planeOf([]int{2, 1}, []int{1, 1}, []int{0, 0}, []int{1, 1}), of([]int{2, 2, 1, 2}, 3, 4, 8, 7, 9, 9, -3, -3), []int{2, 3, 4, 5, 10, 11, 14, 13}, api.OK)
}

// P12.1

func TestOfEqualWordsTheLeastPlaceIsPicked(t *testing.T) {
	row := []int{1, 1, 5}
	maxIs(t, of(row, 7, 7, 7, 7, 7), line(3, 1, 0, 1), filled([]int{1, 1, 3}, 7), []int{0, 1, 2}, api.OK)
	maxIs(t, of(row, -7, -8, -7, -8, -7), line(3, 1, 1, 1), filled([]int{1, 1, 5}, -7), []int{0, 0, 2, 2, 4}, api.OK)
	maxIs(t, of(row, 0, most, 0, most, most), line(2, 1, 0, 2), of([]int{1, 1, 3}, 0, most, most), []int{0, 1, 4}, api.OK)
	maxIs(t, of(row, -most, -most, -most, -most, -most), line(5, 1, 0, 1), of([]int{1, 1, 1}, -most), []int{0}, api.OK)
	grid, all := []int{1, 1, 2, 3}, planeOf([]int{2, 3}, []int{1, 1}, []int{0, 0}, []int{1, 1})
	for _, c := range []struct {
		words []int64
		pick  int
	}{
		{[]int64{1, 2, 9, 9, 2, 1}, 2}, {[]int64{1, 2, 9, 3, 9, 1}, 2}, {[]int64{1, 9, 2, 9, 2, 9}, 1}, {[]int64{9, 1, 1, 1, 1, 9}, 0}, {[]int64{1, 1, 1, 2, 9, 9}, 4}, {[]int64{1, 1, 1, 9, 2, 9}, 3}, {[]int64{1, 9, 9, 9, 9, 9}, 1}, {[]int64{0, 0, 0, 0, 0, 0}, 0}, {[]int64{-2, -2, -1, -1, -2, -2}, 2},
	} {
		maxIs(t, of(grid, c.words...), all, of([]int{1, 1, 1, 1}, slices.Max(c.words)), []int{c.pick}, api.OK)
		two := append(slices.Clone(c.words), c.words...)
		maxIs(t, of([]int{1, 2, 2, 3}, two...), all, filled([]int{1, 2, 1, 1}, slices.Max(c.words)), []int{c.pick, 6 + c.pick}, api.OK)
		maxIs(t, of([]int{2, 1, 2, 3}, two...), all, filled([]int{2, 1, 1, 1}, slices.Max(c.words)), []int{c.pick, 6 + c.pick}, api.OK)
	}
}

// A tap that is out is no 0.

func TestWordsBelow0BesideTapsThatAreOut(t *testing.T) {
	x := of([]int{1, 1, 3}, -5, -2, -9)
	maxIs(t, x, line(2, 1, 1, 1), of([]int{1, 1, 4}, -5, -2, -2, -9), []int{0, 1, 1, 2}, api.OK)
	avgIs(t, x, line(2, 1, 1, 1), of([]int{1, 1, 4}, -5, -4, -6, -9), api.OK)
	maxIs(t, x, line(7, 1, 2, 1), of([]int{1, 1, 1}, -2), []int{1}, api.OK)
	y := of([]int{1, 1, 2, 2}, -4, -3, -2, -1)
	maxIs(t, y, plane(2, 1, 1, 1), of([]int{1, 1, 3, 3}, -4, -3, -3, -2, -1, -1, -2, -1, -1), []int{0, 1, 1, 2, 3, 3, 2, 3, 3}, api.OK)
	avgIs(t, y, plane(2, 1, 1, 1), of([]int{1, 1, 3, 3}, -4, -4, -3, -3, -2, -2, -2, -2, -1), api.OK) // 3.5, 2.5 and 1.5 to even
	for _, p := range poolings() {
		for _, v := range []int64{-most, -1} {
			want, _ := pooled(filled(p.s, v), p.c)
			maxIs(t, filled(p.s, v), p.c, filled(want.greatest.Shape, v), want.picks, api.OK)
			avgIs(t, filled(p.s, v), p.c, filled(want.greatest.Shape, v), api.OK)
		}
	}
}

func TestOnlySomeTapsWithin(t *testing.T) {
	one := []int{1, 1, 1}
	maxIs(t, of(one, -7), line(3, 1, 4096, 4096), of(one, -7), []int{0}, api.OK) // the middle one
	avgIs(t, of(one, -7), line(3, 1, 4096, 4096), of(one, -7), api.OK)
	avgIs(t, of(one, 9), line(4, 1, 3, 1), filled([]int{1, 1, 4}, 9), api.OK) // each of them in turn
	two := of([]int{1, 1, 2}, 4, 9)
	maxIs(t, two, line(2, 2, 2, 3), of([]int{1, 1, 2}, 9, 4), []int{1, 0}, api.OK) // the second, the first; between them none would be
	avgIs(t, two, line(2, 2, 2, 3), of([]int{1, 1, 2}, 9, 4), api.OK)
	avgIs(t, rising([]int{1, 1, 5}), line(5, 2, 2, 1), of([]int{1, 1, 3}, 2, 3, 4), api.OK)
	avgIs(t, rising([]int{1, 1, 3, 3}), plane(3, 2, 1, 1), of([]int{1, 1, 2, 2}, 3, 4, 6, 7), api.OK) // four words each
}

func TestTheGreatestAndTheLeastWords(t *testing.T) {
	two, one := []int{1, 1, 2}, []int{1, 1, 1}
	for _, c := range []struct {
		a, b     int64
		pick     int
		greatest int64
		mean     int64
	}{
		{most, most, 0, most, most}, {-most, -most, 0, -most, -most}, {most, -most, 0, most, 0}, {-most, most, 1, most, 0}, {most, most - 1, 0, most, most - 1}, {most - 2, most - 1, 1, most - 1, most - 1}, {-most, -most + 1, 1, -most + 1, -most + 1}, {-most + 1, -most + 2, 1, -most + 2, -most + 1}, {most, 0, 0, most, 1 << 46}, {-most, 0, 1, 0, -1 << 46},
	} {
		maxIs(t, of(two, c.a, c.b), line(2, 1, 0, 1), of(one, c.greatest), []int{c.pick}, api.OK)
		avgIs(t, of(two, c.a, c.b), line(2, 1, 0, 1), of(one, c.mean), api.OK)
	}
	s, all := []int{1, 1, 256, 256}, plane(256, 1, 0, 1)
	for _, v := range []int64{most, -most, most - 1} {
		maxIs(t, filled(s, v), all, of([]int{1, 1, 1, 1}, v), []int{0}, api.OK)
		avgIs(t, filled(s, v), all, of([]int{1, 1, 1, 1}, v), api.OK)
	}
	last := filled(s, -most)
	last.Data[65535] = -most + 1
	maxIs(t, last, all, of([]int{1, 1, 1, 1}, -most+1), []int{65535}, api.OK)
	avgIs(t, last, all, of([]int{1, 1, 1, 1}, -most), api.OK)
}

// P12.2

func TestHalvesGoToTheEvenOne(t *testing.T) {
	for _, c := range []struct {
		words []int64
		want  int64
	}{
		{[]int64{0, 1}, 0}, {[]int64{1, 2}, 2}, {[]int64{2, 3}, 2}, {[]int64{3, 4}, 4}, {[]int64{0, -1}, 0}, {[]int64{-1, -2}, -2}, {[]int64{-2, -3}, -2}, {[]int64{-3, -4}, -4}, {[]int64{-3, 4}, 0}, {[]int64{3, -4}, 0}, {[]int64{-1, 4}, 2}, {[]int64{1, -4}, -2},
		{[]int64{1, 2, 3, 4}, 2}, {[]int64{2, 3, 4, 5}, 4}, {[]int64{-1, -2, -3, -4}, -2}, {[]int64{-2, -3, -4, -5}, -4}, {[]int64{0, 0, 0, 1}, 0}, {[]int64{0, 0, 0, 3}, 1}, {[]int64{0, 0, 0, -1}, 0}, {[]int64{0, 0, 0, -3}, -1}, {[]int64{0, 1, 0, 1}, 0}, {[]int64{1, 1, 2, 2}, 2},
		{[]int64{0, 0, 1, 0, 0, 2}, 0}, {[]int64{1, 2, 3, 1, 1, 1}, 2}, {[]int64{-1, -2, -3, -1, -1, -1}, -2}, {[]int64{3, 3, 3, 2, 2, 2}, 2},
		{[]int64{most, most - 1}, most - 1}, {[]int64{-most, -most + 1}, -most + 1}, {[]int64{most - 1, most - 2}, most - 1}, {[]int64{-most + 1, -most + 2}, -most + 1},
	} {
		n := len(c.words)
		avgIs(t, of([]int{1, 1, n}, c.words...), line(n, 1, 0, 1), of([]int{1, 1, 1}, c.want), api.OK)
		avgIs(t, of([]int{1, 1, n}, c.words...), line(n+2, 1, 1, 1), of([]int{1, 1, 1}, c.want), api.OK) // with taps that are out
		for _, shape := range [][]int{{1, n}, {n, 1}, {2, n / 2}, {n / 2, 2}} {
			ones := []int{1, 1, 1, 1}
			avgIs(t, of(slices.Concat(ones[:2], shape), c.words...), planeOf(shape, ones[:2], make([]int, 2), ones[:2]), of(ones, c.want), api.OK)
		}
	}
}

func TestThirds(t *testing.T) {
	for n, want := range []int64{0, 0, 1, 1, 1, 2, 2, 2, 3} { // n / 3
		avgIs(t, of([]int{1, 1, 3}, int64(n), 0, 0), line(3, 1, 0, 1), of([]int{1, 1, 1}, want), api.OK)
		avgIs(t, of([]int{1, 1, 3}, 0, 0, int64(-n)), line(3, 1, 0, 1), of([]int{1, 1, 1}, -want), api.OK)
	}
}

func TestAMeanIsOneRounding(t *testing.T) {
	x := of([]int{1, 1, 2, 2}, 0, 1, 1, 1) // 3/4; by each dimension alone a half would go to 0
	avgIs(t, x, plane(2, 1, 0, 1), of([]int{1, 1, 1, 1}, 1), api.OK)
	avgIs(t, x, planeOf([]int{1, 2}, []int{1, 1}, []int{0, 0}, []int{1, 1}), of([]int{1, 1, 2, 1}, 0, 1), api.OK)
	avgIs(t, x, planeOf([]int{2, 1}, []int{1, 1}, []int{0, 0}, []int{1, 1}), of([]int{1, 1, 1, 2}, 0, 1), api.OK)
	avgIs(t, x, plane(4, 1, 1, 1), of([]int{1, 1, 1, 1}, 1), api.OK)
}

// Errors

// noKernels are what Kernel may not be beside numbers of so many spatial dimensions.
func noKernels(spatial int) [][]int {
	list := [][]int{nil, {}, {1, 1, 1}, {1, 1, 1, 1}}
	if spatial == 1 {
		list = append(list, []int{1, 1})
	} else {
		list = append(list, []int{1})
	}
	for _, v := range []int{0, -1, 4097, math.MinInt, math.MaxInt} {
		bad := slices.Repeat([]int{1}, spatial)
		for d := range bad {
			other := slices.Clone(bad)
			other[d] = v
			list = append(list, other)
		}
		list = append(list, slices.Repeat([]int{v}, spatial))
	}
	return list
}

func allPoolings() []pooling {
	return slices.Concat(poolings(), emptyPoolings(), longPoolings(), noPoolings())
}

func TestKernelsThatAreNone(t *testing.T) {
	for _, p := range allPoolings() {
		x := filled(p.s, most)
		for _, kernel := range noKernels(len(p.c.Stride)) {
			bothTell(t, x, with(p.c, kernel...), api.ErrForm)
		}
	}
}

func TestNumbersThatAreNone(t *testing.T) {
	for _, c := range sample.NoNumbers() {
		for _, kernel := range [][]int{nil, {1}, {1, 1}, {1, 1, 1}, {2}, {2, 3}, {0}} {
			for _, s := range [][]int{nil, {4}, {1, 4}, {1, 1, 4}, {1, 1, 4, 4}, {16, 4096}, {1, 1, 256, 256}} {
				bothTell(t, filled(s, 1), with(c, kernel...), api.ErrForm)
			}
		}
	}
	for _, p := range longPoolings() { // ahead of too many words
		for _, v := range []int{0, -1, 4097} {
			c := p.c
			c.Stride = slices.Repeat([]int{v}, len(p.s)-2)
			bothTell(t, filled(p.s, 1), c, api.ErrForm)
			c = p.c
			c.Dilation = slices.Repeat([]int{v}, len(p.s)-2)
			bothTell(t, filled(p.s, 1), c, api.ErrForm)
			c = p.c
			c.Pad = append(slices.Clone(p.c.Pad[1:]), min(v, -v))
			if v != 0 {
				bothTell(t, filled(p.s, 1), c, api.ErrForm)
			}
		}
	}
}

func TestNoTensorsAreToldFirst(t *testing.T) {
	for _, bad := range append(sample.NoTensors(), api.Tensor{}, of([]int{1, 1, 0}), of([]int{1, 1, 4097}), of([]int{1, 1, 2}, 1), of([]int{1, 1, 2}, 1, 2, 3), of([]int{1, 1, 2, 2}, 1, 2, 3)) {
		for _, c := range []api.Conv{line(1, 1, 0, 1), plane(1, 1, 0, 1), line(9, 1, 0, 1), line(1, 1, 1, 1), plane(2, 1, 1, 1), {}} {
			bothTell(t, bad, c, api.ErrForm)
		}
	}
	for _, p := range allPoolings() {
		n := sample.Count(p.s)
		for _, v := range sample.NoWords() {
			for _, place := range []int{0, n / 2, n - 1} {
				bad := filled(p.s, 1)
				bad.Data[place] = v
				bothTell(t, bad, p.c, api.ErrForm)
			}
		}
		bothTell(t, of(p.s, filled(p.s, 1).Data[1:]...), p.c, api.ErrForm)
		bothTell(t, of(p.s, make([]int64, n+1)...), p.c, api.ErrForm)
	}
	bothTell(t, of([]int{1, 1, 3}, 1<<47, 0, 0), line(1, 2, 0, 1), api.ErrForm)
	bothTell(t, of([]int{1, 1, 3}, 0, 1<<47, 0), line(1, 2, 0, 1), api.ErrForm) // a word that no tap meets
	bothTell(t, of([]int{1, 1, 2}, 1<<47, -1<<47), line(2, 1, 0, 1), api.ErrForm)
}

// noPoolings do not go together.
func noPoolings() []pooling {
	return []pooling{
		{nil, line(1, 1, 0, 1)}, {nil, plane(1, 1, 0, 1)}, {[]int{4}, line(1, 1, 0, 1)}, {[]int{4}, plane(1, 1, 0, 1)}, {[]int{4, 4}, line(1, 1, 0, 1)}, {[]int{4, 4}, plane(1, 1, 0, 1)}, {[]int{1}, line(1, 1, 4096, 1)}, // ranks
		{[]int{1, 1, 4}, plane(1, 1, 0, 1)}, {[]int{1, 1, 4, 4}, line(1, 1, 0, 1)}, {[]int{1, 1, 1}, plane(1, 1, 0, 1)}, {[]int{1, 1, 1, 1}, line(1, 1, 0, 1)}, {[]int{4, 4, 4}, plane(5, 1, 1, 1)}, // numbers for another rank
		{[]int{1, 1, 3}, line(4, 1, 0, 1)}, {[]int{1, 1, 3}, line(4, 2, 0, 1)}, {[]int{1, 1, 3}, line(4, 4096, 0, 1)}, {[]int{1, 1, 3}, line(8, 1, 2, 1)}, {[]int{1, 1, 3}, line(2, 1, 0, 3)}, {[]int{1, 1, 3}, line(4096, 1, 4095, 4096)}, {[]int{1, 1, 1}, line(4, 1, 4096, 4096)}, {[]int{2, 2, 4}, line(4096, 1, 2045, 1)}, // no place
		{[]int{1, 1, 2, 3}, plane(3, 1, 0, 1)}, {[]int{1, 1, 3, 2}, plane(3, 1, 0, 1)}, {[]int{1, 1, 3, 3}, plane(4, 7, 0, 1)}, {[]int{1, 1, 3, 3}, planeOf([]int{4, 1}, []int{1, 1}, []int{0, 0}, []int{1, 1})}, {[]int{1, 1, 3, 3}, planeOf([]int{1, 4}, []int{1, 1}, []int{0, 0}, []int{1, 1})}, {[]int{1, 1, 3, 3}, planeOf([]int{2, 2}, []int{1, 1}, []int{0, 0}, []int{3, 1})}, {[]int{1, 1, 3, 3}, planeOf([]int{2, 2}, []int{1, 1}, []int{0, 0}, []int{1, 3})}, {[]int{1, 1, 1, 1}, plane(4096, 1, 4096, 4096)},
	}
}

func TestWhatDoesNotGoTogether(t *testing.T) {
	for _, p := range noPoolings() {
		bothTell(t, filled(p.s, 1), p.c, api.ErrShape)
		bothTell(t, filled(p.s, -most), p.c, api.ErrShape)
	}
}

func TestPlacesAtWhichNoTapIsWithin(t *testing.T) {
	for _, p := range emptyPoolings() {
		if _, ok := pooled(filled(p.s, 1), p.c); ok {
			t.Fatalf("%v: a tap is within at each place", p)
		}
		bothTell(t, filled(p.s, 1), p.c, api.ErrShape)
		bothTell(t, filled(p.s, -most), p.c, api.ErrShape)
	}
	x := filled([]int{1, 1, 2}, 5)
	maxIs(t, x, line(2, 3, 3, 4), filled([]int{1, 1, 2}, 5), []int{1, 0}, api.OK) // as of the last one alone, but for the stride
}

func TestTooManyWords(t *testing.T) {
	for _, p := range longPoolings() {
		bothTell(t, filled(p.s, 1), p.c, api.ErrBudget)
		bothTell(t, filled(p.s, -most), p.c, api.ErrBudget)
	}
	for _, p := range []pooling{ // places at which no tap is within are told ahead of them
		{[]int{1, 1, 4096}, line(1, 1, 1, 1)}, {[]int{1, 1, 4096}, line(4096, 1, 4096, 1)}, {[]int{17, 1, 1}, line(4095, 1, 4095, 1)}, {[]int{1, 1, 256, 256}, plane(1, 1, 1, 1)}, {[]int{1, 1, 256, 256}, planeOf([]int{2, 1}, []int{1, 1}, []int{1, 1}, []int{1, 1})}, {[]int{1, 1, 256, 256}, planeOf([]int{1, 2}, []int{1, 1}, []int{1, 1}, []int{1, 1})}, {[]int{1, 1, 1, 1}, plane(1, 1, 4096, 1)}, {[]int{1, 1, 16, 4096}, plane(4096, 1, 4096, 1)},
		{[]int{1, 1, 16, 4096}, planeOf([]int{17, 3}, []int{1, 1}, []int{0, 1}, []int{1, 1})}, {[]int{1, 1, 4096, 16}, planeOf([]int{3, 17}, []int{1, 1}, []int{1, 0}, []int{1, 1})}, // no place along one dimension
	} {
		bothTell(t, filled(p.s, 1), p.c, api.ErrShape)
	}
}

// filledHolds does not go through all taps, as of large windows they are too many.
func filledHolds(t *testing.T, p pooling) {
	t.Helper()
	s := append(slices.Clone(p.s[:2]), places(p.s[2:], p.c.Kernel, p.c)...)
	x, want := filled(p.s, 7), filled(s, 7)
	avgIs(t, x, p.c, want, api.OK)
	got, picks, e := pool.Max(x, p.c)
	if e != api.OK || !sample.Same(got, want) || len(picks) != len(want.Data) || picks[0] != 0 || slices.Max(picks) >= len(x.Data) {
		t.Errorf("%v: %v", p, e)
	}
}

func TestAsManyWordsAsThereMayBe(t *testing.T) {
	for _, p := range []pooling{
		{[]int{16, 1, 4096}, line(1, 1, 0, 1)}, {[]int{1, 16, 4096}, line(3, 1, 1, 1)}, {[]int{1, 1, 4095}, line(2, 1, 1, 1)}, {[]int{1, 1, 256, 256}, plane(1, 1, 0, 1)}, {[]int{1, 1, 256, 256}, planeOf([]int{1, 3}, []int{1, 1}, []int{0, 1}, []int{1, 1})}, {[]int{1, 1, 16, 4096}, planeOf([]int{1, 3}, []int{1, 1}, []int{0, 1}, []int{1, 1})}, {[]int{1, 1, 1}, line(4096, 1, 4095, 1)}, {[]int{4, 4, 1}, line(4096, 1, 4095, 1)}, {[]int{1, 1, 1, 1}, plane(256, 1, 255, 1)}, {[]int{4096, 16, 1}, line(1, 1, 0, 1)}, {[]int{16, 4096, 1, 1}, plane(1, 1, 0, 1)},
	} {
		filledHolds(t, p)
	}
}

// All windows together have more than 2^31 words and more than 2^39 taps.
func TestLargeWindowsNearToOneAnother(t *testing.T) {
	for _, p := range []pooling{
		{[]int{1, 1, 256, 256}, plane(4096, 1, 2047, 1)}, {[]int{1, 1, 4096, 16}, planeOf([]int{1, 4081}, []int{256, 1}, []int{0, 4080}, []int{1, 1})},
	} {
		filledHolds(t, p)
	}
}

// P12.3

func TestWindowsOfOneTapChangeNothing(t *testing.T) {
	m := mixer.Mixer(123)
	for _, s := range sample.Shapes() {
		if len(s) < 3 {
			continue
		}
		ones := slices.Repeat([]int{1}, len(s)-2)
		for _, dilation := range []int{1, 7, 4096} {
			c := api.Conv{Kernel: ones, Stride: ones, Pad: make([]int, len(ones)), Dilation: slices.Repeat([]int{dilation}, len(ones))}
			x := sample.Tensor(&m, s, 47)
			picks := make([]int, len(x.Data))
			for n := range picks {
				picks[n] = n
			}
			maxIs(t, x, c, x, picks, api.OK)
			avgIs(t, x, c, x, api.OK)
		}
	}
	x := of([]int{1, 2, 5}, 1, 2, 3, 4, 5, 6, 7, 8, 9, 10)
	maxIs(t, x, line(1, 2, 0, 1), of([]int{1, 2, 3}, 1, 3, 5, 6, 8, 10), []int{0, 2, 4, 5, 7, 9}, api.OK)
	avgIs(t, x, line(1, 2, 0, 1), of([]int{1, 2, 3}, 1, 3, 5, 6, 8, 10), api.OK)
	maxIs(t, x, line(1, 4096, 0, 4096), of([]int{1, 2, 1}, 1, 6), []int{0, 5}, api.OK)
	bothTell(t, x, line(1, 1, 1, 1), api.ErrShape)
}

func TestMaxIsOneOfTheWordsAndAvgLiesBetween(t *testing.T) {
	m := mixer.Mixer(124)
	for _, p := range poolings() {
		for _, bits := range []int{1, 8, 47} {
			x := sample.Tensor(&m, p.s, bits)
			negative := of(p.s, slices.Clone(x.Data)...)
			for n := range negative.Data {
				negative.Data[n] = -negative.Data[n]
			}
			greatest, picks, e := pool.Max(x, p.c)
			least, _, leastE := pool.Max(negative, p.c)
			mean, meanE := pool.Avg(x, p.c)
			opposite, oppositeE := pool.Avg(negative, p.c)
			if max(e, leastE, meanE, oppositeE) != api.OK || len(picks) != len(greatest.Data) {
				t.Fatalf("%v: %v, %v, %v, %v, %v", p, picks, e, leastE, meanE, oppositeE)
			}
			for n, pick := range picks {
				if x.Data[pick] != greatest.Data[n] || mean.Data[n] > greatest.Data[n] || mean.Data[n] < -least.Data[n] || opposite.Data[n] != -mean.Data[n] {
					t.Errorf("%v of %v at %d: %v, %v, %v, %v", p, x, n, greatest, picks, mean, opposite)
				}
			}
		}
	}
}

func TestAWindowOfAWholeRowIsReduced(t *testing.T) {
	m := mixer.Mixer(125)
	for _, s := range [][]int{{2, 3, 7}, {1, 1, 1}, {3, 1, 12}} {
		x := sample.Tensor(&m, s, 4)
		greatest, picks, _ := reduce.Max(x, 2)
		mean, _ := reduce.Mean(x, []int{2})
		for n := range picks {
			picks[n] += n * s[2]
		}
		told := []int{s[0], s[1], 1}
		maxIs(t, x, line(s[2], 1, 0, 1), of(told, greatest.Data...), picks, api.OK)
		avgIs(t, x, line(s[2], 1, 0, 1), of(told, mean.Data...), api.OK)
	}
	for _, s := range [][]int{{2, 3, 4, 5}, {1, 1, 1, 9}, {3, 1, 9, 1}} {
		x := sample.Tensor(&m, s, 47)
		mean, _ := reduce.Mean(x, []int{2, 3})
		avgIs(t, x, planeOf(s[2:], []int{1, 1}, []int{0, 0}, []int{1, 1}), of([]int{s[0], s[1], 1, 1}, mean.Data...), api.OK)
	}
}

func TestWindowsWithoutPadAreColumns(t *testing.T) {
	m := mixer.Mixer(126)
	for _, p := range poolings() {
		if slices.Max(p.c.Pad) > 0 || p.s[1] > 1 {
			continue
		}
		x := sample.Tensor(&m, p.s, 47)
		bare := with(p.c)
		columns, _ := conv.Cols(x, p.c.Kernel, bare)
		want, _, _ := reduce.Max(columns, 1)
		mean, _ := reduce.Mean(columns, []int{1})
		greatest, _, e := pool.Max(x, p.c)
		told, _ := pool.Avg(x, p.c)
		if e != api.OK || !slices.Equal(greatest.Data, want.Data) || !slices.Equal(told.Data, mean.Data) {
			t.Errorf("%v of %v: %v, %v; want %v, %v", p, x, greatest, told, want, mean)
		}
	}
}

// R1, R2

func roomyNumbers(c api.Conv) api.Conv {
	return planeOf(sample.RoomyInts(c.Kernel), sample.RoomyInts(c.Stride), sample.RoomyInts(c.Pad), sample.RoomyInts(c.Dilation))
}

func asHandedIn(c, was api.Conv) bool {
	return sample.IntsAsHandedIn(c.Kernel, was.Kernel) && sample.IntsAsHandedIn(c.Stride, was.Stride) && sample.IntsAsHandedIn(c.Pad, was.Pad) && sample.IntsAsHandedIn(c.Dilation, was.Dilation)
}

func TestNothingHandedInIsChangedOrKept(t *testing.T) {
	m := mixer.Mixer(127)
	for _, p := range poolings() {
		words := sample.Words(&m, sample.Count(p.s), 20)
		want, _ := pooled(of(p.s, words...), p.c)
		for range 2 { // the second time, after the answers of the first were spoiled
			x := sample.Roomy(p.s, words)
			c := roomyNumbers(p.c)
			greatest, picks, _ := pool.Max(x, c)
			mean, _ := pool.Avg(x, c)
			if !sample.Same(greatest, want.greatest) || !slices.Equal(picks, want.picks) || !sample.Same(mean, want.mean) {
				t.Errorf("%v: %v, %v, %v", p, greatest, picks, mean)
			}
			sample.Spoil(greatest)
			if !slices.Equal(picks, want.picks) || !sample.Same(mean, want.mean) {
				t.Errorf("%v: answers share: %v, %v", p, picks, mean)
			}
			sample.SpoilInts(picks)
			sample.Spoil(mean)
			if !sample.AsHandedIn(x, p.s, words) || !asHandedIn(c, p.c) {
				t.Errorf("%v: handed in, now: %v, %v", p, x, c)
			}
		}
	}
}

func TestSpoiledArgumentsLeaveAnswersAsTheyWere(t *testing.T) {
	for _, p := range poolings() {
		x := rising(slices.Clone(p.s))
		c := roomyNumbers(p.c)
		want, _ := pooled(rising(p.s), p.c)
		greatest, picks, _ := pool.Max(x, c)
		mean, _ := pool.Avg(x, c)
		sample.Spoil(x)
		for _, list := range [][]int{c.Kernel, c.Stride, c.Pad, c.Dilation} {
			sample.SpoilInts(list)
		}
		if !sample.Same(greatest, want.greatest) || !slices.Equal(picks, want.picks) || !sample.Same(mean, want.mean) {
			t.Errorf("%v: %v, %v, %v", p, greatest, picks, mean)
		}
	}
}

func TestNothingHandedInIsChangedBesideAnError(t *testing.T) {
	s, data := []int{1, 1, 3}, []int64{most, -most, 1}
	x := sample.Roomy(s, data)
	for _, c := range []struct {
		c    api.Conv
		want api.Errno
	}{
		{line(4, 1, 0, 1), api.ErrShape}, {line(1, 1, 1, 1), api.ErrShape}, {plane(1, 1, 0, 1), api.ErrShape}, {line(4096, 1, 4095, 1), api.ErrBudget}, {line(1, 0, 0, 1), api.ErrForm}, {with(sample.Line(1, 0, 1)), api.ErrForm},
	} {
		d := roomyNumbers(c.c)
		bothTell(t, x, d, c.want)
		if !sample.AsHandedIn(x, s, data) || !asHandedIn(d, c.c) {
			t.Errorf("%v: %v, %v", c, x, d)
		}
	}
}

func TestTheSameCallTellsTheSame(t *testing.T) {
	m := mixer.Mixer(128)
	for _, p := range poolings() {
		x := sample.Tensor(&m, p.s, 1)
		first, picks, _ := pool.Max(x, p.c)
		mean, _ := pool.Avg(x, p.c)
		maxIs(t, x, p.c, first, picks, api.OK)
		avgIs(t, x, p.c, mean, api.OK)
	}
}
