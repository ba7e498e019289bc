package conv_test

import (
	"math"
	"math/big"
	"slices"
	"testing"

	"ratchet/api"
	"ratchet/conv"
	"ratchet/matmul"
	"ratchet/mixer"
	"ratchet/sample"
)

const most = sample.Most

var (
	of, filled, rising, signed  = sample.Of, sample.Filled, sample.Rising, sample.Signed
	indexes, at, places, stands = sample.Indexes, sample.At, sample.Places, sample.Stands
	line, plane, planeOf        = sample.Line, sample.Plane, sample.PlaneOf
)

func convIs(t *testing.T, x, w api.Tensor, c api.Conv, f int, want api.Tensor, wantE api.Errno) {
	t.Helper()
	got, e := conv.Conv(x, w, c, f)
	if e != wantE || !sample.Same(got, want) || e != api.OK && !sample.IsZero(got) {
		t.Errorf("Conv(%v, %v, %v, %d): %v, %v; want %v, %v", x, w, c, f, got, e, want, wantE)
	}
}

func colsIs(t *testing.T, x api.Tensor, k []int, c api.Conv, want api.Tensor, wantE api.Errno) {
	t.Helper()
	got, e := conv.Cols(x, k, c)
	if e != wantE || !sample.Same(got, want) || e != api.OK && !sample.IsZero(got) {
		t.Errorf("Cols(%v, %v, %v): %v, %v; want %v, %v", x, k, c, got, e, want, wantE)
	}
}

func backIs(t *testing.T, from api.Tensor, s, k []int, c api.Conv, want api.Tensor, wantE api.Errno) {
	t.Helper()
	got, e := conv.Back(from, s, k, c)
	if e != wantE || !sample.Same(got, want) || e != api.OK && !sample.IsZero(got) {
		t.Errorf("Back(%v, %v, %v, %v): %v, %v; want %v, %v", from, s, k, c, got, e, want, wantE)
	}
}

// A going is one of sample's, of a type of its own, so that lists of more of them need no names of fields.
type going sample.Going

func goings() []going {
	var list []going
	for _, g := range sample.Goings() {
		list = append(list, going(g))
	}
	return list
}

// rounded is the floor of n / 2^f and a half, less 1 if that is a half and odd.
func rounded(n *big.Int, f int) *big.Int {
	one := big.NewInt(1)
	twice := new(big.Int).Lsh(n, 1)
	up, rest := new(big.Int).DivMod(twice.Add(twice, new(big.Int).Lsh(one, uint(f))), new(big.Int).Lsh(one, uint(f+1)), new(big.Int))
	if rest.Sign() == 0 && up.Bit(0) == 1 {
		up.Sub(up, one)
	}
	return up
}

func put(a api.Tensor, word *big.Int) (api.Tensor, bool) {
	if word.CmpAbs(big.NewInt(most)) > 0 {
		return api.Tensor{}, false
	}
	a.Data = append(a.Data, word.Int64())
	return a, true
}

// convolved is word by word what the chapter's formula says.
func convolved(x, w api.Tensor, c api.Conv, f int) (api.Tensor, api.Errno) {
	l, k := x.Shape[2:], w.Shape[2:]
	want := api.Tensor{Shape: append([]int{x.Shape[0], w.Shape[0]}, places(l, k, c)...)}
	for _, i := range indexes(want.Shape) {
		sum := new(big.Int)
		for ch := range x.Shape[1] {
			for _, tap := range indexes(k) {
				if where, within := stands(l, i[2:], tap, c); within {
					sum.Add(sum, new(big.Int).Mul(big.NewInt(x.Data[at(x.Shape, []int{i[0], ch}, where)]), big.NewInt(w.Data[at(w.Shape, []int{i[1], ch}, tap)])))
				}
			}
		}
		var is bool
		if want, is = put(want, rounded(sum, f)); !is {
			return api.Tensor{}, api.ErrOver
		}
	}
	return want, api.OK
}

// columns are row by row, each by channel and tap, column by place.
func columns(x api.Tensor, k []int, c api.Conv) api.Tensor {
	l := x.Shape[2:]
	over := places(l, k, c)
	want := api.Tensor{Shape: []int{x.Shape[0], x.Shape[1] * sample.Count(k), sample.Count(over)}}
	for n := range x.Shape[0] {
		for ch := range x.Shape[1] {
			for _, tap := range indexes(k) {
				for _, place := range indexes(over) {
					word := int64(0)
					if where, within := stands(l, place, tap, c); within {
						word = x.Data[at(x.Shape, []int{n, ch}, where)]
					}
					want.Data = append(want.Data, word)
				}
			}
		}
	}
	return want
}

// backed is at each word of s the sum of what would be laid from it.
func backed(t api.Tensor, s, k []int, c api.Conv) (api.Tensor, api.Errno) {
	want := api.Tensor{Shape: s}
	over := places(s[2:], k, c)
	for _, i := range indexes(s) {
		sum := new(big.Int)
		for _, tap := range indexes(k) {
			for _, place := range indexes(over) {
				if where, within := stands(s[2:], place, tap, c); within && slices.Equal(where, i[2:]) {
					row := i[1]*sample.Count(k) + at(k, tap)
					sum.Add(sum, big.NewInt(t.Data[at(t.Shape, []int{i[0], row, at(over, place)})]))
				}
			}
		}
		var is bool
		if want, is = put(want, sum); !is {
			return api.Tensor{}, api.ErrOver
		}
	}
	return want, api.OK
}

func convHolds(t *testing.T, x, w api.Tensor, c api.Conv, f int) {
	t.Helper()
	want, e := convolved(x, w, c, f)
	convIs(t, x, w, c, f, want, e)
}

// P11.1

func TestConvsOfAllShapesAndFractions(t *testing.T) {
	m := mixer.Mixer(111)
	for _, g := range goings() {
		for f := api.MinF; f <= api.MaxF; f++ {
			for _, bits := range []int{3, f, 40, 47} { // with the longest ones most sums are no words
				convHolds(t, sample.Tensor(&m, g.X, bits), sample.Tensor(&m, g.W, f), g.C, f)
			}
			convHolds(t, sample.Tensor(&m, g.X, 5), sample.Tensor(&m, g.W, 47), g.C, f)
		}
	}
}

func TestConvsOfTheGreatestAndTheLeastWords(t *testing.T) {
	m := mixer.Mixer(112)
	for _, g := range goings() {
		for _, f := range []int{8, 9, 16, 31, 32} {
			for _, v := range []int64{most, -most, 1 << f, -1 << f, 1 << (f - 1), 1, 0} {
				convHolds(t, filled(g.X, v), filled(g.W, most), g.C, f)
				convHolds(t, filled(g.X, -most), filled(g.W, v), g.C, f)
				convHolds(t, signed(&m, g.X), filled(g.W, v), g.C, f)
			}
			convHolds(t, signed(&m, g.X), signed(&m, g.W), g.C, f)
		}
	}
}

func TestOneWordByOneTap(t *testing.T) {
	s := []int{1, 1, 1}
	for _, x := range sample.Edges() {
		for _, y := range sample.Edges() {
			for _, f := range []int{8, 15, 23, 32} {
				convHolds(t, of(s, x), of(s, y), line(1, 0, 1), f)
			}
		}
	}
}

func TestOneSpatialDimension(t *testing.T) {
	x := of([]int{2, 2, 3}, 1, 2, 3, 4, 5, 6, 7, 8, 9, 10, 11, 12)
	w := of([]int{2, 2, 2}, 256, 512, 0, 256, -256, 256, 768, 0)
	convIs(t, x, w, line(1, 0, 1), 8, of([]int{2, 2, 2}, 10, 14, 13, 16, 34, 38, 31, 34), api.OK)
	convIs(t, x, w, line(1, 0, 2), 8, of([]int{2, 2, 1}, 13, 14, 37, 32), api.OK)
	convIs(t, x, w, line(3, 2, 1), 8, of([]int{2, 2, 2}, 0, 14, 0, 16, 0, 38, 0, 34), api.OK)
}

func TestTwoSpatialDimensions(t *testing.T) {
	x := rising([]int{1, 1, 3, 4})
	w := of([]int{1, 1, 2, 2}, 256, 512, 768, 1024)
	convIs(t, x, w, plane(1, 0, 1), 8, of([]int{1, 1, 2, 3}, 44, 54, 64, 84, 94, 104), api.OK)
	convIs(t, x, w, planeOf([]int{2, 1}, []int{0, 1}, []int{1, 1}), 8, of([]int{1, 1, 1, 5}, 22, 44, 54, 64, 28), api.OK)
	convIs(t, x, w, planeOf([]int{1, 2}, []int{1, 0}, []int{1, 1}), 8, of([]int{1, 1, 4, 2}, 11, 25, 44, 64, 84, 104, 29, 35), api.OK)
	convIs(t, x, w, planeOf([]int{1, 1}, []int{0, 0}, []int{2, 3}), 8, of([]int{1, 1, 1, 1}, 1+8+27+48), api.OK)
	convIs(t, x, of([]int{1, 1, 1, 2}, 256, 512), plane(2, 0, 1), 8, of([]int{1, 1, 2, 2}, 5, 11, 29, 35), api.OK)
	convIs(t, x, of([]int{1, 1, 2, 1}, 256, 512), plane(1, 0, 1), 8, of([]int{1, 1, 2, 4}, 11, 14, 17, 20, 23, 26, 29, 32), api.OK)
}

func TestPlacesWhoseTapsAreAllOut(t *testing.T) {
	convIs(t, of([]int{1, 1, 2}, 3, 5), of([]int{1, 1, 2}, 256, 256), line(1, 3, 1), 8, of([]int{1, 1, 7}, 0, 0, 3, 8, 5, 0, 0), api.OK)
	convIs(t, of([]int{1, 1, 1}, 3), of([]int{1, 1, 2}, 256, 256), line(1, 1, 2), 8, of([]int{1, 1, 1}, 0), api.OK) // on both sides of it
	convIs(t, of([]int{1, 1, 1, 1}, 3), of([]int{1, 1, 1, 1}, 256), plane(1, 1, 1), 8, of([]int{1, 1, 3, 3}, 0, 0, 0, 0, 3, 0, 0, 0, 0), api.OK)
	convIs(t, of([]int{1, 1, 1, 2}, 3, 5), of([]int{2, 1, 1, 1}, 256, 512), planeOf([]int{1, 1}, []int{1, 0}, []int{1, 1}), 8, of([]int{1, 2, 3, 2}, 0, 0, 3, 5, 0, 0, 0, 0, 6, 10, 0, 0), api.OK)
	convIs(t, filled([]int{1, 1, 1}, most), filled([]int{1, 1, 1}, most), line(4096, 4095, 1), 32, of([]int{1, 1, 2}, 0, 0), api.OK)
}

func TestHalvesGoToTheEvenOne(t *testing.T) {
	one, two := []int{1, 1, 1}, []int{1, 1, 2}
	for f := api.MinF; f <= api.MaxF; f++ {
		half := int64(1) << (f - 1)
		for _, c := range []struct{ n, want int64 }{{1, 0}, {3, 2}, {5, 2}, {7, 4}, {-1, 0}, {-3, -2}, {-5, -2}, {-7, -4}} {
			convIs(t, of(one, c.n), of(one, half), line(1, 0, 1), f, of(one, c.want), api.OK)
			convIs(t, of(one, half), of(one, c.n), line(1, 0, 1), f, of(one, c.want), api.OK)
			convIs(t, of(two, c.n, c.n), of(two, half-1, 1), line(1, 0, 1), f, of(one, c.want), api.OK)
			convIs(t, of([]int{1, 2, 1}, c.n, 1), of([]int{1, 2, 1}, half, 1), line(1, 0, 1), f, of(one, (c.n+1)/2), api.OK)
			convIs(t, of([]int{1, 1, 2, 1}, c.n, -1), of([]int{1, 1, 2, 1}, half, 1), plane(1, 0, 1), f, of([]int{1, 1, 1, 1}, (c.n-1)/2), api.OK)
		}
	}
}

func TestASumIsRoundedOnce(t *testing.T) {
	one, four := []int{1, 1, 1}, []int{1, 1, 4}
	quarters := filled(four, 1<<6)
	convIs(t, filled(four, 1), quarters, line(1, 0, 1), 8, of(one, 1), api.OK) // each by itself would go to 0
	convIs(t, filled(four, -3), quarters, line(1, 0, 1), 8, of(one, -3), api.OK)
	convIs(t, of(four, 1, 1, 1, 3), quarters, line(1, 0, 1), 8, of(one, 2), api.OK) // a half, to even
	convIs(t, of(four, 1, 1, 0, 0), quarters, line(1, 0, 1), 8, of(one, 0), api.OK)
	convIs(t, filled([]int{1, 4, 1}, 1), filled([]int{1, 4, 1}, 1<<6), line(1, 0, 1), 8, of(one, 1), api.OK)
	convIs(t, filled([]int{1, 1, 2, 2}, 1), filled([]int{1, 1, 2, 2}, 1<<6), plane(1, 0, 1), 8, of([]int{1, 1, 1, 1}, 1), api.OK)
	convIs(t, filled([]int{1, 1, 4096}, 1), filled([]int{1, 1, 4096}, 1), line(1, 0, 1), 12, of(one, 1), api.OK)
	convIs(t, filled([]int{1, 16, 4096}, 1), filled([]int{1, 16, 4096}, 1), line(1, 0, 1), 17, of(one, 0), api.OK)
	convIs(t, filled([]int{1, 16, 4096}, 3), filled([]int{1, 16, 4096}, -1), line(1, 0, 1), 17, of(one, -2), api.OK)
}

func TestSumsThatAreNoWords(t *testing.T) {
	for _, f := range []int{8, 16, 32} {
		one := int64(1) << f
		for _, c := range []struct {
			words []int64
			want  int64 // 0: ErrOver
		}{
			{[]int64{most, 1}, 0}, {[]int64{-most, -1}, 0}, {[]int64{1 << 46, 1 << 46}, 0}, {[]int64{-1 << 46, -1 << 46}, 0}, {[]int64{most, most}, 0}, {[]int64{-most, -most}, 0},
			{[]int64{1 << 46, 1<<46 - 1}, most}, {[]int64{-1 << 46, -1<<46 + 1}, -most},
			{[]int64{most, 1, -1}, most}, {[]int64{-most, -1, 1}, -most}, {[]int64{most, most, -most}, most}, {[]int64{-most, -most, most}, -most}, {[]int64{most, most, most, -most, -most, -7}, most - 7}, {[]int64{1, most, -1}, most},
		} {
			want, wantE := []int64{c.want}, api.OK
			if c.want == 0 {
				want, wantE = nil, api.ErrOver
			}
			for _, s := range [][]int{{1, 1, len(c.words)}, {1, len(c.words), 1}, {1, 1, 1, len(c.words)}, {1, 1, len(c.words), 1}, {1, len(c.words), 1, 1}} {
				numbers, told := line(1, 0, 1), api.Tensor{}
				if len(s) == 4 {
					numbers = plane(1, 0, 1)
				}
				if wantE == api.OK {
					told = of(slices.Repeat([]int{1}, len(s)), want...)
				}
				convIs(t, of(s, c.words...), filled(s, one), numbers, f, told, wantE)
				convIs(t, filled(s, one), of(s, c.words...), numbers, f, told, wantE)
			}
		}
	}
}

func TestPartsThatAreNoWords(t *testing.T) {
	one, two := []int{1, 1, 1}, []int{1, 1, 2}
	for f := api.MinF; f <= api.MaxF; f++ {
		v := int64(2) << f
		convIs(t, of(two, v, v), of(two, most, -most+3), line(1, 0, 1), f, of(one, 6), api.OK)
		convIs(t, of(two, -most, most), of(two, most, most), line(1, 0, 1), f, of(one, 0), api.OK)
		convIs(t, of(two, v, v), of(two, most, -most+3), line(1, 1, 1), f, api.Tensor{}, api.ErrOver) // with one tap of both out
		convIs(t, of(one, v), of(one, most), line(1, 0, 1), f, api.Tensor{}, api.ErrOver)
	}
}

func TestWordsJustBelowAndJustAbove(t *testing.T) {
	one, two := []int{1, 1, 1}, []int{1, 1, 2}
	for f := api.MinF; f <= api.MaxF; f++ {
		half, whole := int64(1)<<(f-1), int64(1)<<f
		for _, sign := range []int64{1, -1} {
			convIs(t, of(two, sign*most, sign), of(two, whole, half-1), line(1, 0, 1), f, of(one, sign*most), api.OK)
			convIs(t, of(two, sign*most, sign), of(two, whole, half), line(1, 0, 1), f, api.Tensor{}, api.ErrOver) // the even one of both is 2^47
			convIs(t, of(two, sign*(most-1), sign), of(two, whole, half), line(1, 0, 1), f, of(one, sign*(most-1)), api.OK)
		}
	}
}

func TestAnyWordsErrorIsTold(t *testing.T) {
	for _, g := range goings() {
		for n := range sample.Count(g.X) {
			x := filled(g.X, 1)
			x.Data[n] = most
			convHolds(t, x, filled(g.W, 512), g.C, 8)
			x.Data[n] = -most
			convHolds(t, x, filled(g.W, 512), g.C, 8)
		}
	}
	ones := []int{1, 1, 1}
	convIs(t, of([]int{3, 1, 1}, 1, 1, most), of(ones, 512), line(1, 0, 1), 8, api.Tensor{}, api.ErrOver)
	convIs(t, of(ones, 512), of([]int{3, 1, 1}, 1, 1, most), line(1, 0, 1), 8, api.Tensor{}, api.ErrOver)
	convIs(t, of([]int{1, 1, 3}, 1, 1, most), of(ones, 512), line(1, 0, 1), 8, api.Tensor{}, api.ErrOver)
	convIs(t, of([]int{1, 1, 3}, 1, 1, most), of(ones, 512), line(2, 1, 1), 8, of([]int{1, 1, 3}, 0, 2, 0), api.OK) // a word that no tap meets
}

func TestConvsOfAsManyWordsAsThereMayBe(t *testing.T) {
	convIs(t, filled([]int{16, 1, 4096}, 3), filled([]int{1, 1, 1}, 256), line(1, 0, 1), 8, filled([]int{16, 1, 4096}, 3), api.OK)
	convIs(t, filled([]int{1, 1, 4096}, 3), filled([]int{16, 1, 1}, 256), line(1, 0, 1), 8, filled([]int{1, 16, 4096}, 3), api.OK)
	convIs(t, filled([]int{1, 16, 4096}, most), filled([]int{1, 16, 4096}, most), line(1, 0, 1), 32, api.Tensor{}, api.ErrOver)
	convIs(t, filled([]int{1, 16, 4096}, -most), filled([]int{1, 16, 4096}, most), line(1, 0, 1), 8, api.Tensor{}, api.ErrOver)
	convIs(t, filled([]int{1, 1, 256, 256}, 3), filled([]int{1, 1, 1, 1}, 256), plane(1, 0, 1), 8, filled([]int{1, 1, 256, 256}, 3), api.OK)
	convIs(t, filled([]int{1, 1, 256, 256}, 1<<24), filled([]int{1, 1, 256, 256}, 1<<24), plane(1, 0, 1), 32, of([]int{1, 1, 1, 1}, 1<<32), api.OK)
	convIs(t, filled([]int{1, 1, 1}, 3), filled([]int{1, 1, 4096}, 256), line(1, 4095, 1), 8, filled([]int{1, 1, 4096}, 3), api.OK)
	convIs(t, filled([]int{1, 4096, 4, 4}, 1), filled([]int{1, 4096, 4, 4}, 1), plane(1, 0, 1), 16, of([]int{1, 1, 1, 1}, 1), api.OK)
}

func TestExamples(t *testing.T) {
	x, w := of([]int{1, 1, 4}, 1, 2, 3, 4), of([]int{1, 1, 2}, 256, 256)
	convIs(t, x, w, line(1, 0, 1), 8, of([]int{1, 1, 3}, 3, 5, 7), api.OK)
	convIs(t, x, w, line(1, 1, 1), 8, of([]int{1, 1, 5}, 1, 3, 5, 7, 4), api.OK)
	convIs(t, x, w, line(2, 0, 1), 8, of([]int{1, 1, 2}, 3, 7), api.OK)
}

// noNumbers are a convolution's but for one thing, a Kernel too.
func noNumbers() []api.Conv {
	one, none, ones, nones := []int{1}, []int{0}, []int{1, 1}, []int{0, 0}
	return append(sample.NoNumbers(), []api.Conv{
		{Kernel: one, Stride: one, Pad: none, Dilation: one}, {Kernel: ones, Stride: ones, Pad: nones, Dilation: ones}, {Kernel: one, Stride: ones, Pad: nones, Dilation: ones}, {Kernel: none, Stride: one, Pad: none, Dilation: one},
	}...)
}

// noGoings are what does not go together.
func noGoings() []going {
	return []going{
		{nil, nil, line(1, 0, 1)}, {nil, []int{1, 1, 1}, line(1, 0, 1)}, {[]int{1, 1, 1}, nil, line(1, 0, 1)}, {[]int{1}, []int{1}, line(1, 0, 1)}, {[]int{1, 1}, []int{1, 1}, line(1, 0, 1)}, {[]int{1, 1}, []int{1, 1}, plane(1, 0, 1)}, {[]int{1}, []int{1, 1, 1}, line(1, 0, 1)}, {[]int{1, 1, 1}, []int{1}, line(1, 0, 1)}, // ranks
		{[]int{1, 1}, []int{1, 1, 1}, line(1, 0, 1)}, {[]int{1, 1, 1}, []int{1, 1}, line(1, 0, 1)}, {[]int{1, 1, 1}, []int{1, 1, 1, 1}, line(1, 0, 1)}, {[]int{1, 1, 1, 1}, []int{1, 1, 1}, line(1, 0, 1)}, {[]int{1, 1, 1}, []int{1, 1, 1, 1}, plane(1, 0, 1)}, {[]int{1, 1, 1, 1}, []int{1, 1, 1}, plane(1, 0, 1)},
		{[]int{1, 2, 3}, []int{1, 1, 3}, line(1, 0, 1)}, {[]int{1, 1, 3}, []int{1, 2, 3}, line(1, 0, 1)}, {[]int{2, 1, 3}, []int{1, 2, 3}, line(1, 0, 1)}, {[]int{1, 2, 3}, []int{2, 1, 3}, line(1, 0, 1)}, {[]int{1, 2, 1, 1}, []int{1, 3, 1, 1}, plane(1, 0, 1)}, // channels
		{[]int{1, 1, 3}, []int{1, 1, 2}, plane(1, 0, 1)}, {[]int{1, 1, 3, 3}, []int{1, 1, 2, 2}, line(1, 0, 1)}, {[]int{1, 1, 1}, []int{1, 1, 1}, plane(1, 0, 1)}, {[]int{1, 1, 1, 1}, []int{1, 1, 1, 1}, line(1, 0, 1)}, // numbers for another rank
		{[]int{1, 1, 3}, []int{1, 1, 4}, line(1, 0, 1)}, {[]int{1, 1, 3}, []int{1, 1, 4}, line(2, 0, 1)}, {[]int{1, 1, 3}, []int{1, 1, 4}, line(4096, 0, 1)}, {[]int{1, 1, 3}, []int{1, 1, 8}, line(1, 2, 1)}, {[]int{1, 1, 3}, []int{1, 1, 2}, line(1, 0, 3)}, {[]int{1, 1, 1}, []int{1, 1, 4096}, line(4096, 0, 4096)}, {[]int{1, 1, 1}, []int{1, 1, 4}, line(1, 4096, 4096)}, // no place
		{[]int{1, 1, 2, 3}, []int{1, 1, 3, 3}, plane(1, 0, 1)}, {[]int{1, 1, 3, 2}, []int{1, 1, 3, 3}, plane(1, 0, 1)}, {[]int{1, 1, 3, 3}, []int{1, 1, 4, 4}, plane(7, 0, 1)}, {[]int{1, 1, 3, 3}, []int{1, 1, 4, 1}, planeOf([]int{1, 1}, []int{0, 1}, []int{1, 1})}, {[]int{1, 1, 3, 3}, []int{1, 1, 2, 2}, planeOf([]int{1, 1}, []int{0, 0}, []int{1, 3})}, {[]int{1, 1, 3, 3}, []int{1, 1, 2, 2}, planeOf([]int{1, 1}, []int{0, 0}, []int{3, 1})}, {[]int{1, 1, 5, 5}, []int{1, 1, 4, 16}, plane(1, 1, 2)},
	}
}

// longGoings make an answer that has too many words, or a dimension that is none.
func longGoings() []going {
	return []going{
		{[]int{17, 1, 1}, []int{4096, 1, 1}, line(1, 0, 1)}, {[]int{1, 1, 4096}, []int{17, 1, 1}, line(1, 0, 1)}, {[]int{1, 1, 4096}, []int{1, 1, 1}, line(1, 1, 1)}, {[]int{1, 1, 4096}, []int{1, 1, 1}, line(1, 4096, 1)}, {[]int{1, 1, 1}, []int{1, 1, 1}, line(1, 2048, 1)}, {[]int{16, 1, 256}, []int{16, 1, 2}, line(1, 1, 1)}, {[]int{257, 1, 1}, []int{256, 1, 1}, line(1, 0, 1)},
		{[]int{1, 1, 256, 256}, []int{1, 1, 2, 2}, plane(1, 1, 1)}, {[]int{1, 1, 1, 1}, []int{1, 1, 1, 1}, plane(1, 4096, 1)}, {[]int{1, 1, 1, 1}, []int{1, 1, 1, 1}, planeOf([]int{1, 1}, []int{2048, 0}, []int{1, 1})}, {[]int{1, 1, 1, 1}, []int{1, 1, 1, 1}, planeOf([]int{1, 1}, []int{0, 2048}, []int{1, 1})}, {[]int{2, 1, 128, 128}, []int{3, 1, 1, 1}, plane(1, 0, 1)},
	}
}

func TestConvsOfWhatDoesNotGoTogether(t *testing.T) {
	for _, g := range noGoings() {
		convIs(t, filled(g.X, 1), filled(g.W, 1), g.C, 8, api.Tensor{}, api.ErrShape)
		convIs(t, filled(g.X, most), filled(g.W, most), g.C, 8, api.Tensor{}, api.ErrShape) // with sums that are no words
	}
}

func TestConvsThatHaveTooManyWords(t *testing.T) {
	for _, g := range longGoings() {
		convIs(t, filled(g.X, 1), filled(g.W, 1), g.C, 8, api.Tensor{}, api.ErrBudget)
		convIs(t, filled(g.X, most), filled(g.W, most), g.C, 8, api.Tensor{}, api.ErrBudget)
	}
	convIs(t, filled([]int{1, 1, 1}, 3), filled([]int{1, 1, 1}, 256), line(2, 4095, 1), 8, filled([]int{1, 1, 4096}, 0), api.OK) // as many as there may be
	// with channels that are not one, too
	for _, g := range longGoings() {
		wrong := slices.Clone(g.W)
		wrong[1]++
		if sample.Count(wrong) <= api.MaxElems {
			convIs(t, filled(g.X, 1), filled(wrong, 1), g.C, 8, api.Tensor{}, api.ErrShape)
		}
	}
}

func TestNumbersThatAreNone(t *testing.T) {
	all := slices.Concat(goings(), noGoings(), longGoings())
	for _, c := range noNumbers() {
		for _, g := range all {
			convIs(t, filled(g.X, most), filled(g.W, most), c, 8, api.Tensor{}, api.ErrForm)
		}
		for _, s := range [][]int{nil, {4}, {1, 4}, {1, 1, 4}, {1, 1, 4, 4}} {
			for _, k := range [][]int{nil, {1}, {5}, {1, 1}, {5, 5}, {1, 1, 1}} {
				colsIs(t, filled(s, 1), k, c, api.Tensor{}, api.ErrForm)
				backIs(t, filled([]int{1, 1, 4}, 1), s, k, c, api.Tensor{}, api.ErrForm)
			}
		}
	}
}

func TestErrorsOfConvInTheirOrder(t *testing.T) {
	for _, g := range slices.Concat(goings(), noGoings(), longGoings()) {
		x, w := filled(g.X, most), filled(g.W, most)
		for _, f := range sample.NoCounts() {
			convIs(t, x, w, g.C, f, api.Tensor{}, api.ErrForm)
		}
		for _, v := range sample.NoWords() {
			for _, n := range []int{0, len(x.Data) / 2, len(x.Data) - 1} {
				bad := of(g.X, slices.Clone(x.Data)...)
				bad.Data[n] = v
				convIs(t, bad, w, g.C, 8, api.Tensor{}, api.ErrForm)
			}
			for _, n := range []int{0, len(w.Data) / 2, len(w.Data) - 1} {
				bad := of(g.W, slices.Clone(w.Data)...)
				bad.Data[n] = v
				convIs(t, x, bad, g.C, 8, api.Tensor{}, api.ErrForm)
			}
		}
	}
}

func TestNoTensorsAreToldFirst(t *testing.T) {
	good := of([]int{1, 1, 1}, most)
	for _, bad := range append(sample.NoTensors(), api.Tensor{}, of([]int{1, 1, 0}), of([]int{1, 1, 4097}), of([]int{1, 1, 2}, 1), of([]int{1, 1, 2}, 1, 2, 3), of([]int{1, 1, 2, 2}, 1, 2, 3)) {
		for _, c := range []api.Conv{line(1, 0, 1), plane(1, 0, 1), {}} {
			convIs(t, bad, good, c, 8, api.Tensor{}, api.ErrForm)
			convIs(t, good, bad, c, 8, api.Tensor{}, api.ErrForm)
			convIs(t, bad, bad, c, 7, api.Tensor{}, api.ErrForm)
			colsIs(t, bad, []int{1}, c, api.Tensor{}, api.ErrForm)
			colsIs(t, bad, nil, c, api.Tensor{}, api.ErrForm)
			backIs(t, bad, []int{1, 1, 1}, []int{1}, c, api.Tensor{}, api.ErrForm)
			backIs(t, bad, nil, nil, c, api.Tensor{}, api.ErrForm)
		}
	}
}

// P11.2

func TestColsOfAllShapes(t *testing.T) {
	m := mixer.Mixer(113)
	for _, g := range goings() {
		for range 3 {
			x := sample.Tensor(&m, g.X, 47)
			colsIs(t, x, g.W[2:], g.C, columns(x, g.W[2:], g.C), api.OK)
		}
		x := signed(&m, g.X)
		colsIs(t, x, g.W[2:], g.C, columns(x, g.W[2:], g.C), api.OK)
	}
}

func TestCols(t *testing.T) {
	x := rising([]int{1, 1, 4})
	colsIs(t, x, []int{2}, line(1, 0, 1), of([]int{1, 2, 3}, 1, 2, 3, 2, 3, 4), api.OK)
	colsIs(t, x, []int{2}, line(1, 1, 1), of([]int{1, 2, 5}, 0, 1, 2, 3, 4, 1, 2, 3, 4, 0), api.OK)
	colsIs(t, x, []int{2}, line(3, 0, 1), of([]int{1, 2, 1}, 1, 2), api.OK)
	colsIs(t, x, []int{2}, line(1, 1, 3), of([]int{1, 2, 3}, 0, 1, 2, 3, 4, 0), api.OK)
	colsIs(t, x, []int{1}, line(1, 0, 1), of([]int{1, 1, 4}, 1, 2, 3, 4), api.OK)
	colsIs(t, rising([]int{1, 2, 3}), []int{2}, line(1, 0, 1), of([]int{1, 4, 2}, 1, 2, 2, 3, 4, 5, 5, 6), api.OK)
	colsIs(t, rising([]int{2, 1, 3}), []int{2}, line(1, 0, 1), of([]int{2, 2, 2}, 1, 2, 2, 3, 4, 5, 5, 6), api.OK)
	colsIs(t, rising([]int{1, 1, 2, 3}), []int{2, 2}, plane(1, 0, 1), of([]int{1, 4, 2}, 1, 2, 2, 3, 4, 5, 5, 6), api.OK)
	colsIs(t, rising([]int{1, 1, 2, 2}), []int{1, 2}, planeOf([]int{1, 1}, []int{0, 1}, []int{1, 1}), of([]int{1, 2, 6}, 0, 1, 2, 0, 3, 4, 1, 2, 0, 3, 4, 0), api.OK)
	colsIs(t, rising([]int{1, 1, 2, 2}), []int{2, 1}, planeOf([]int{1, 1}, []int{1, 0}, []int{1, 1}), of([]int{1, 2, 6}, 0, 0, 1, 2, 3, 4, 1, 2, 3, 4, 0, 0), api.OK)
	colsIs(t, of([]int{1, 1, 1}, -most), []int{3}, line(1, 2, 1), of([]int{1, 3, 3}, 0, 0, -most, 0, -most, 0, -most, 0, 0), api.OK)
	colsIs(t, of([]int{1, 1, 1}, most), []int{2}, line(1, 1, 2), of([]int{1, 2, 1}, 0, 0), api.OK)
}

func TestColsOfKernelsThatAreNone(t *testing.T) {
	for _, v := range []int{0, -1, 4097, math.MinInt, math.MaxInt} {
		for _, k := range [][]int{{v}, {v, 1}, {1, v}, {v, v}, {1, 1, v}, {1, v, 1, 1}} {
			for _, s := range [][]int{nil, {3}, {1, 3}, {1, 1, 3}, {1, 1, 3, 3}, {1, 4096, 4, 4}} {
				for _, c := range []api.Conv{line(1, 0, 1), plane(1, 0, 1), plane(1, 4096, 1)} {
					colsIs(t, filled(s, 1), k, c, api.Tensor{}, api.ErrForm)
					backIs(t, filled(s, 1), s, k, c, api.Tensor{}, api.ErrForm)
				}
			}
		}
	}
}

func TestColsOfWhatDoesNotGoTogether(t *testing.T) {
	for _, c := range []struct {
		x, k []int
		c    api.Conv
	}{
		{nil, nil, line(1, 0, 1)}, {nil, []int{1}, line(1, 0, 1)}, {[]int{3}, []int{1}, line(1, 0, 1)}, {[]int{1, 3}, []int{1}, line(1, 0, 1)}, {[]int{1, 3}, nil, line(1, 0, 1)}, {[]int{1, 3}, []int{1, 1}, plane(1, 0, 1)},
		{[]int{1, 1, 3}, nil, line(1, 0, 1)}, {[]int{1, 1, 3}, []int{}, line(1, 0, 1)}, {[]int{1, 1, 3}, []int{1, 1}, line(1, 0, 1)}, {[]int{1, 1, 3}, []int{1, 1}, plane(1, 0, 1)}, {[]int{1, 1, 3}, []int{1}, plane(1, 0, 1)}, {[]int{1, 1, 3}, []int{1, 1, 1}, line(1, 0, 1)},
		{[]int{1, 1, 3, 3}, nil, plane(1, 0, 1)}, {[]int{1, 1, 3, 3}, []int{1}, plane(1, 0, 1)}, {[]int{1, 1, 3, 3}, []int{1}, line(1, 0, 1)}, {[]int{1, 1, 3, 3}, []int{1, 1}, line(1, 0, 1)}, {[]int{1, 1, 3, 3}, []int{1, 1, 1}, plane(1, 0, 1)},
		{[]int{1, 1, 3}, []int{4}, line(1, 0, 1)}, {[]int{1, 1, 3}, []int{4}, line(2, 0, 1)}, {[]int{1, 1, 3}, []int{4096}, line(4096, 0, 4096)}, {[]int{1, 1, 3}, []int{2}, line(1, 0, 3)}, {[]int{1, 1, 3}, []int{8}, line(1, 2, 1)}, {[]int{1, 1, 2, 3}, []int{3, 3}, plane(1, 0, 1)}, {[]int{1, 1, 3, 2}, []int{3, 3}, plane(1, 0, 1)}, {[]int{1, 1, 3, 3}, []int{4096, 4096}, plane(1, 0, 1)},
	} {
		colsIs(t, filled(c.x, most), c.k, c.c, api.Tensor{}, api.ErrShape)
		backIs(t, filled([]int{1, 1, 1}, most), c.x, c.k, c.c, api.Tensor{}, api.ErrShape)
	}
}

// longColumns make columns of which there are too many, or too long ones.
func longColumns() []going {
	return []going{
		{[]int{1, 1, 4096}, []int{17}, line(1, 8, 1)}, {[]int{1, 1, 4096}, []int{16}, line(1, 8, 1)}, {[]int{1, 1, 4096}, []int{1}, line(1, 1, 1)}, {[]int{16, 1, 256}, []int{17}, line(1, 8, 1)}, {[]int{1, 4096, 16}, []int{2}, line(16, 0, 1)}, {[]int{1, 2049, 2}, []int{2}, line(1, 0, 1)}, {[]int{16, 16, 256}, []int{2}, line(1, 0, 1)},
		{[]int{1, 1, 256, 256}, []int{1, 1}, plane(1, 0, 1)}, {[]int{1, 1, 65, 64}, []int{1, 1}, plane(1, 0, 1)}, {[]int{1, 1, 64, 64}, []int{65, 64}, plane(4096, 1, 1)}, {[]int{1, 1, 1, 1}, []int{4096, 4096}, plane(1, 4096, 1)}, {[]int{1, 4096, 1, 1}, []int{4096, 4096}, plane(1, 4095, 1)}, {[]int{1, 4096, 4, 4}, []int{1, 2}, plane(4096, 0, 1)},
	}
}

func TestColsThatHaveTooManyWords(t *testing.T) {
	for _, g := range longColumns() {
		colsIs(t, filled(g.X, most), g.W, g.C, api.Tensor{}, api.ErrBudget)
		for _, v := range sample.NoWords() {
			bad := filled(g.X, most)
			bad.Data[len(bad.Data)-1] = v
			colsIs(t, bad, g.W, g.C, api.Tensor{}, api.ErrForm)
		}
		for _, s := range [][]int{{1, 1, 1}, {16, 64, 64}, {16, 4096}, {16, 16, 256}, nil, g.X} {
			backIs(t, filled(s, most), g.X, g.W, g.C, api.Tensor{}, api.ErrShape) // no tensor has the shape that is none
		}
	}
	colsIs(t, filled([]int{1, 1, 4096}, 3), []int{1}, line(1, 0, 1), filled([]int{1, 1, 4096}, 3), api.OK)
	colsIs(t, filled([]int{16, 1, 4096}, 3), []int{1}, line(1, 0, 1), filled([]int{16, 1, 4096}, 3), api.OK)
	colsIs(t, filled([]int{16, 2048, 2}, 3), []int{2}, line(1, 0, 1), filled([]int{16, 4096, 1}, 3), api.OK)
	colsIs(t, filled([]int{1, 1, 64, 64}, 3), []int{64, 64}, plane(1, 0, 1), filled([]int{1, 4096, 1}, 3), api.OK)
}

func TestBacksOfAllShapes(t *testing.T) {
	m := mixer.Mixer(114)
	for _, g := range goings() {
		k := g.W[2:]
		s := []int{g.X[0], g.X[1] * sample.Count(k), sample.Count(places(g.X[2:], k, g.C))}
		for _, bits := range []int{4, 30, 47, 47} { // with the longest ones some sums are no words
			a := sample.Tensor(&m, s, bits)
			want, e := backed(a, g.X, k, g.C)
			backIs(t, a, g.X, k, g.C, want, e)
		}
		for _, a := range []api.Tensor{filled(s, most), filled(s, -most), filled(s, 1<<46), filled(s, 1), filled(s, 0), signed(&m, s)} {
			want, e := backed(a, g.X, k, g.C)
			backIs(t, a, g.X, k, g.C, want, e)
		}
	}
}

func TestBack(t *testing.T) {
	backIs(t, of([]int{1, 2, 3}, 1, 10, 100, 1000, 10000, 100000), []int{1, 1, 4}, []int{2}, line(1, 0, 1), of([]int{1, 1, 4}, 1, 1010, 10100, 100000), api.OK)
	backIs(t, of([]int{1, 2, 1}, 1, 10), []int{1, 1, 4}, []int{2}, line(3, 0, 1), of([]int{1, 1, 4}, 1, 10, 0, 0), api.OK) // words on which none stands
	backIs(t, of([]int{1, 1, 2}, 1, 10), []int{1, 1, 5}, []int{1}, line(4, 0, 1), of([]int{1, 1, 5}, 1, 0, 0, 0, 10), api.OK)
	backIs(t, of([]int{1, 2, 1}, most, -most), []int{1, 1, 1}, []int{2}, line(1, 1, 2), of([]int{1, 1, 1}, 0), api.OK)
	backIs(t, of([]int{1, 2, 5}, 1000, 1, 2, 3, 4, 10, 20, 30, 40, 1000), []int{1, 1, 4}, []int{2}, line(1, 1, 1), of([]int{1, 1, 4}, 11, 22, 33, 44), api.OK) // words at taps that are out
	backIs(t, of([]int{1, 4, 1}, 1, 2, 3, 4), []int{1, 2, 2}, []int{2}, line(1, 0, 1), of([]int{1, 2, 2}, 1, 2, 3, 4), api.OK)
	backIs(t, of([]int{2, 2, 1}, 1, 2, 3, 4), []int{2, 1, 2}, []int{2}, line(1, 0, 1), of([]int{2, 1, 2}, 1, 2, 3, 4), api.OK)
	backIs(t, of([]int{1, 4, 2}, 1, 2, 3, 4, 5, 6, 7, 8), []int{1, 1, 2, 3}, []int{2, 2}, plane(1, 0, 1), of([]int{1, 1, 2, 3}, 1, 5, 4, 5, 13, 8), api.OK)
}

func TestSumsOfBackThatAreNoWords(t *testing.T) {
	s, k := []int{1, 1, 1}, []int{3}
	from := func(words ...int64) api.Tensor {
		a := filled([]int{1, 3, 3}, 1<<40)
		a.Data[2], a.Data[4], a.Data[6] = words[0], words[1], words[2]
		return a
	}
	for _, c := range []struct {
		words []int64
		want  int64 // 0: ErrOver
	}{
		{[]int64{most, 1, 0}, 0}, {[]int64{-most, 0, -1}, 0}, {[]int64{0, most, 1}, 0}, {[]int64{1 << 46, 1 << 46, 0}, 0}, {[]int64{most, most, most}, 0}, {[]int64{-most, -most, -most}, 0},
		{[]int64{most, 1, -1}, most}, {[]int64{-most, -1, 1}, -most}, {[]int64{most, most, -most}, most}, {[]int64{-most, -most, most}, -most}, {[]int64{1 << 46, 1<<46 - 1, 0}, most}, {[]int64{most, 0, 0}, most},
	} {
		want, wantE := of(s, c.want), api.OK
		if c.want == 0 {
			want, wantE = api.Tensor{}, api.ErrOver
		}
		backIs(t, from(c.words...), s, k, line(1, 2, 1), want, wantE)
	}
	all := filled([]int{1, 256, 256}, most) // 4096 places of 16 taps, on each word
	backIs(t, all, []int{1, 1, 256}, []int{256}, line(1, 127, 1), api.Tensor{}, api.ErrShape)
	backIs(t, filled([]int{1, 256, 255}, most), []int{1, 1, 256}, []int{256}, line(1, 127, 1), api.Tensor{}, api.ErrOver)
	backIs(t, filled([]int{1, 256, 256}, -most), []int{1, 1, 1}, []int{256}, line(1, 255, 1), api.Tensor{}, api.ErrOver)
	backIs(t, of([]int{1, 2, 2}, 0, 1, most, 0), []int{1, 1, 1}, []int{2}, line(1, 1, 1), api.Tensor{}, api.ErrOver)
	backIs(t, of([]int{1, 2, 3}, 1, 1, most, 1, 1, 1), []int{1, 1, 4}, []int{2}, line(1, 0, 1), api.Tensor{}, api.ErrOver) // the third word's alone
}

func TestBacksOfWhatDoesNotGoTogether(t *testing.T) {
	s, k, c := []int{1, 1, 4}, []int{2}, line(1, 0, 1)
	backIs(t, filled([]int{1, 2, 3}, most), s, k, c, api.Tensor{}, api.ErrOver)
	for _, other := range [][]int{nil, {6}, {2, 3}, {3, 2}, {1, 3, 2}, {2, 1, 3}, {1, 2, 2}, {1, 2, 4}, {1, 1, 3}, {2, 2, 3}, {1, 6, 1}, {1, 2, 3, 1}, {1, 1, 2, 3}, {1, 1, 4}} {
		backIs(t, filled(other, most), s, k, c, api.Tensor{}, api.ErrShape)
	}
	backIs(t, filled([]int{1, 2, 3}, 1), []int{1, 4}, k, c, api.Tensor{}, api.ErrShape)
	backIs(t, filled([]int{1, 2, 3}, 1), []int{1, 1, 4, 1}, k, c, api.Tensor{}, api.ErrShape)
	backIs(t, filled([]int{1, 2, 3}, 1), []int{1, 2, 4}, k, c, api.Tensor{}, api.ErrShape)
	backIs(t, filled([]int{1, 2, 3}, 1), []int{2, 1, 4}, k, c, api.Tensor{}, api.ErrShape)
	backIs(t, filled([]int{1, 2, 3}, 1), s, []int{2, 1}, c, api.Tensor{}, api.ErrShape)
	backIs(t, filled([]int{1, 2, 3}, 1), s, nil, c, api.Tensor{}, api.ErrShape)
	backIs(t, filled([]int{1, 2, 3}, 1), s, k, plane(1, 0, 1), api.Tensor{}, api.ErrShape)
	for _, bad := range sample.NoShapes() { // ahead of all that does not go together
		backIs(t, filled([]int{1, 2, 3}, 1), bad, k, c, api.Tensor{}, api.ErrForm)
		backIs(t, filled(nil, 1), bad, nil, plane(1, 0, 1), api.Tensor{}, api.ErrForm)
	}
	backIs(t, filled([]int{1, 2, 3}, 1), []int{1, 1, 0}, k, c, api.Tensor{}, api.ErrForm)
	backIs(t, filled([]int{1, 2, 3}, 1), []int{1, 17, 4096}, k, c, api.Tensor{}, api.ErrForm)
	for _, v := range sample.NoWords() {
		backIs(t, of([]int{1, 2, 3}, 1, 2, 3, 4, 5, v), s, k, c, api.Tensor{}, api.ErrForm)
		backIs(t, of([]int{1, 3, 2}, v, 2, 3, 4, 5, 6), s, k, c, api.Tensor{}, api.ErrForm)
	}
}

// P11.3

func TestConvIsTheProductOfTheKernelsAndCols(t *testing.T) {
	m := mixer.Mixer(115)
	for _, g := range goings() {
		for f := api.MinF; f <= api.MaxF; f++ {
			x, w := sample.Tensor(&m, g.X, 42), sample.Tensor(&m, g.W, f)
			told, e := conv.Conv(x, w, g.C, f)
			cols, ce := conv.Cols(x, g.W[2:], g.C)
			if ce != api.OK {
				t.Fatalf("Cols(%v, %v): %v", x, g, ce)
			}
			var joined []int64
			productE := api.OK
			matrix := of([]int{g.W[0], cols.Shape[1]}, w.Data...)
			for one := range slices.Chunk(cols.Data, cols.Shape[1]*cols.Shape[2]) {
				p, pe := matmul.Mul(matrix, of(cols.Shape[1:], one...), f)
				joined, productE = append(joined, p.Data...), max(productE, pe)
			}
			if e != productE || e == api.OK && !slices.Equal(told.Data, joined) {
				t.Errorf("Conv(%v, %v, %v, %d): %v, %v; want %v, %v", x, w, g.C, f, told, e, joined, productE)
			}
		}
	}
}

func TestBackOfColsIsEachWordAsOftenAsATapStandsOnIt(t *testing.T) {
	m := mixer.Mixer(116)
	for _, g := range goings() {
		k, l := g.W[2:], g.X[2:]
		often := make([]int64, sample.Count(l))
		for _, tap := range indexes(k) {
			for _, place := range indexes(places(l, k, g.C)) {
				if where, within := stands(l, place, tap, g.C); within {
					often[at(l, where)]++
				}
			}
		}
		x := sample.Tensor(&m, g.X, 40)
		want := of(g.X, slices.Clone(x.Data)...)
		for n := range want.Data {
			want.Data[n] *= often[n%len(often)]
		}
		cols, e := conv.Cols(x, k, g.C)
		if e != api.OK {
			t.Fatalf("Cols(%v, %v): %v", x, g, e)
		}
		backIs(t, cols, g.X, k, g.C, want, api.OK)
	}
}

func TestColsAndBackAreTurnsOfOneAnother(t *testing.T) {
	m := mixer.Mixer(117)
	sum := func(a, b api.Tensor) (all int64) {
		for n := range a.Data {
			all += a.Data[n] * b.Data[n]
		}
		return all
	}
	for _, g := range goings() {
		x := sample.Tensor(&m, g.X, 20)
		cols, ce := conv.Cols(x, g.W[2:], g.C)
		y := sample.Tensor(&m, cols.Shape, 20)
		back, be := conv.Back(y, g.X, g.W[2:], g.C)
		if ce != api.OK || be != api.OK || sum(cols, y) != sum(x, back) {
			t.Errorf("%v: %v, %v; %v, %v", g, cols, ce, back, be)
		}
	}
}

// R1, R2

func TestNothingHandedInIsChangedOrKept(t *testing.T) {
	m := mixer.Mixer(118)
	for _, g := range goings() {
		xs, ws := sample.Words(&m, sample.Count(g.X), 20), sample.Words(&m, sample.Count(g.W), 20)
		cols := columns(of(g.X, xs...), g.W[2:], g.C)
		for range 2 { // the second time, after the answers of the first were spoiled
			x, w, a := sample.Roomy(g.X, xs), sample.Roomy(g.W, ws), sample.Roomy(cols.Shape, cols.Data)
			k, s := sample.RoomyInts(g.W[2:]), sample.RoomyInts(g.X)
			c := planeOf(sample.RoomyInts(g.C.Stride), sample.RoomyInts(g.C.Pad), sample.RoomyInts(g.C.Dilation))
			told, _ := conv.Conv(x, w, c, 20)
			laid, _ := conv.Cols(x, k, c)
			back, _ := conv.Back(a, s, k, c)
			wantTold, _ := convolved(x, w, g.C, 20)
			wantBack, _ := backed(cols, g.X, g.W[2:], g.C)
			if !sample.Same(told, wantTold) || !sample.Same(laid, cols) || !sample.Same(back, wantBack) {
				t.Errorf("%v: %v; %v; %v", g, told, laid, back)
			}
			for _, answer := range []api.Tensor{told, laid, back} {
				sample.Spoil(answer)
			}
			asIs := sample.AsHandedIn(x, g.X, xs) && sample.AsHandedIn(w, g.W, ws) && sample.AsHandedIn(a, cols.Shape, cols.Data)
			for _, list := range [][2][]int{{k, g.W[2:]}, {s, g.X}, {c.Stride, g.C.Stride}, {c.Pad, g.C.Pad}, {c.Dilation, g.C.Dilation}} {
				asIs = asIs && sample.IntsAsHandedIn(list[0], list[1])
			}
			if !asIs {
				t.Errorf("%v: handed in, now: %v, %v, %v, %v, %v, %v", g, x, w, a, k, s, c)
			}
		}
	}
}

func TestSpoiledArgumentsLeaveAnswersAsTheyWere(t *testing.T) {
	x, w, a := rising([]int{1, 1, 3}), of([]int{1, 1, 1}, 256), rising([]int{1, 1, 3})
	c, k, s := line(1, 0, 1), []int{1}, []int{1, 1, 3}
	told, _ := conv.Conv(x, w, c, 8)
	laid, _ := conv.Cols(x, k, c)
	back, _ := conv.Back(a, s, k, c)
	for _, arg := range []api.Tensor{x, w, a, {Shape: s}, {Shape: k}, {Shape: c.Stride}, {Shape: c.Pad}, {Shape: c.Dilation}} {
		sample.Spoil(arg)
	}
	for _, answer := range []api.Tensor{told, laid, back} {
		if !sample.Same(answer, rising([]int{1, 1, 3})) {
			t.Errorf("%v", answer)
		}
	}
}

func TestNothingHandedInIsChangedBesideAnError(t *testing.T) {
	s, data := []int{1, 1, 3}, []int64{most, most, most}
	x, w := sample.Roomy(s, data), sample.Roomy(s, data)
	convIs(t, x, w, line(1, 0, 1), 8, api.Tensor{}, api.ErrOver)
	convIs(t, x, w, line(1, 0, 2), 8, api.Tensor{}, api.ErrShape)
	convIs(t, x, w, line(1, 4096, 1), 8, api.Tensor{}, api.ErrBudget)
	convIs(t, x, w, line(1, 0, 0), 8, api.Tensor{}, api.ErrForm)
	colsIs(t, x, []int{4}, line(1, 0, 1), api.Tensor{}, api.ErrShape)
	colsIs(t, x, []int{1}, line(1, 4096, 1), api.Tensor{}, api.ErrBudget)
	backIs(t, x, []int{1, 1, 3}, []int{2}, line(1, 0, 1), api.Tensor{}, api.ErrShape)
	backIs(t, x, []int{1, 1, 1}, []int{3}, line(1, 1, 1), api.Tensor{}, api.ErrShape)
	backIs(t, x, []int{1, 1, 1}, []int{1}, line(1, 1, 1), of([]int{1, 1, 1}, most), api.OK)
	if !sample.AsHandedIn(x, s, data) || !sample.AsHandedIn(w, s, data) {
		t.Errorf("%v, %v", x, w)
	}
}

func TestAnEmptyListIsANilOne(t *testing.T) {
	c := line(1, 0, 1)
	c.Kernel = []int{}
	x := rising([]int{1, 1, 3})
	convIs(t, x, of([]int{1, 1, 1}, 256), c, 8, x, api.OK)
	colsIs(t, x, []int{1}, c, x, api.OK)
	backIs(t, x, []int{1, 1, 3}, []int{1}, c, x, api.OK)
}
