package matmul_test

import (
	"math/big"
	"slices"
	"testing"

	"ratchet/api"
	"ratchet/matmul"
	"ratchet/mixer"
	"ratchet/sample"
)

const most = sample.Most

var (
	of, row, filled, signed = sample.Of, sample.Row, sample.Filled, sample.Signed
	indexes, at             = sample.Indexes, sample.At
)

func mulIs(t *testing.T, a, b api.Tensor, f int, want api.Tensor, wantE api.Errno) {
	t.Helper()
	got, e := matmul.Mul(a, b, f)
	if e != wantE || !sample.Same(got, want) || e != api.OK && !sample.IsZero(got) {
		t.Errorf("Mul(%v, %v, %d): %v, %v; want %v, %v", a, b, f, got, e, want, wantE)
	}
}

func turnIs(t *testing.T, from, want api.Tensor, wantE api.Errno) {
	t.Helper()
	got, e := matmul.Turn(from)
	if e != wantE || !sample.Same(got, want) || e != api.OK && !sample.IsZero(got) {
		t.Errorf("Turn(%v): %v, %v; want %v, %v", from, got, e, want, wantE)
	}
}

// A pair is shapes of two factors.
type pair struct{ a, b []int }

// pairs go together: one matrix by one, a batch by one matrix for all, a batch by a batch, and dimensions of 1 on each side and ahead.
func pairs() []pair {
	return []pair{
		{[]int{2, 3}, []int{3, 4}}, {[]int{3, 3}, []int{3, 3}}, {[]int{5, 2}, []int{2, 5}}, {[]int{4, 7}, []int{7, 2}},
		{[]int{1, 1}, []int{1, 1}}, {[]int{1, 3}, []int{3, 1}}, {[]int{3, 1}, []int{1, 3}}, {[]int{1, 1}, []int{1, 4}}, {[]int{4, 1}, []int{1, 1}}, {[]int{1, 4}, []int{4, 3}}, {[]int{3, 4}, []int{4, 1}},
		{[]int{2, 2, 3}, []int{3, 4}}, {[]int{3, 1, 2}, []int{2, 3}}, {[]int{1, 3, 2}, []int{2, 2}}, {[]int{4, 2, 1}, []int{1, 3}}, {[]int{3, 2, 2}, []int{2, 1}}, {[]int{2, 2, 3}, []int{3, 3}},
		{[]int{2, 2, 3}, []int{2, 3, 4}}, {[]int{3, 1, 2}, []int{3, 2, 1}}, {[]int{1, 3, 2}, []int{1, 2, 2}}, {[]int{4, 2, 1}, []int{4, 1, 2}}, {[]int{3, 3, 3}, []int{3, 3, 3}}, {[]int{5, 1, 1}, []int{5, 1, 1}},
		{[]int{2, 3, 2, 2}, []int{2, 3}}, {[]int{1, 2, 1, 3}, []int{3, 2}}, {[]int{2, 1, 3, 1}, []int{1, 2}}, {[]int{1, 1, 1, 1}, []int{1, 1}},
		{[]int{2, 3, 2, 2}, []int{2, 3, 2, 3}}, {[]int{1, 2, 1, 3}, []int{1, 2, 3, 2}}, {[]int{2, 1, 3, 1}, []int{2, 1, 1, 2}}, {[]int{1, 1, 1, 1}, []int{1, 1, 1, 1}}, {[]int{3, 2, 4, 2}, []int{3, 2, 2, 1}},
	}
}

// rounded is the floor of n / 2^f and a half, less 1 if that is a half and odd.
func rounded(n *big.Int, f int) *big.Int {
	one := big.NewInt(1)
	twice := new(big.Int).Lsh(n, 1)
	up, rest := new(big.Int).DivMod(twice.Add(twice, new(big.Int).Lsh(one, uint(f))), new(big.Int).Lsh(one, uint(f+1)), new(big.Int))
	if rest.Sign() == 0 && up.Bit(0) == 1 {
		up.Sub(up, one)
	}
	return up
}

// product is the one of two tensors that go together, word by word as the chapter's formula says.
func product(a, b api.Tensor, f int) (api.Tensor, api.Errno) {
	last := len(a.Shape) - 1
	want := api.Tensor{Shape: slices.Clone(a.Shape)}
	want.Shape[last] = b.Shape[len(b.Shape)-1]
	for _, i := range indexes(want.Shape) {
		sum := new(big.Int)
		for k := range a.Shape[last] {
			left := append(slices.Clone(i[:last]), k)
			right := []int{k, i[last]}
			if len(b.Shape) > 2 {
				right = append(slices.Clone(i[:last-1]), right...)
			}
			sum.Add(sum, new(big.Int).Mul(big.NewInt(a.Data[at(a.Shape, left)]), big.NewInt(b.Data[at(b.Shape, right)])))
		}
		word := rounded(sum, f)
		if word.CmpAbs(big.NewInt(most)) > 0 {
			return api.Tensor{}, api.ErrOver
		}
		want.Data = append(want.Data, word.Int64())
	}
	return want, api.OK
}

func holds(t *testing.T, a, b api.Tensor, f int) {
	t.Helper()
	want, e := product(a, b, f)
	mulIs(t, a, b, f, want, e)
}

// P10.1

func TestProductsOfAllShapesAndFractions(t *testing.T) {
	m := mixer.Mixer(101)
	for _, p := range pairs() {
		for f := api.MinF; f <= api.MaxF; f++ {
			for _, bits := range []int{3, f, 27, 40, 47} { // with the longest ones most sums are no words
				a, b := sample.Tensor(&m, p.a, bits), sample.Tensor(&m, p.b, bits)
				holds(t, a, b, f)
				holds(t, a, sample.Tensor(&m, p.b, 5), f)
				holds(t, sample.Tensor(&m, p.a, 5), b, f)
			}
		}
	}
}

func TestProductsOfTheGreatestAndTheLeastWords(t *testing.T) {
	m := mixer.Mixer(102)
	for _, p := range pairs() {
		for _, f := range []int{8, 9, 16, 31, 32} {
			for _, v := range []int64{most, -most, 1 << f, -1 << f, 1 << (f - 1), 1, 0} {
				holds(t, filled(p.a, v), filled(p.b, most), f)
				holds(t, filled(p.a, -most), filled(p.b, v), f)
				holds(t, filled(p.a, v), signed(&m, p.b), f)
				holds(t, signed(&m, p.a), filled(p.b, v), f)
			}
			holds(t, signed(&m, p.a), signed(&m, p.b), f)
		}
	}
}

func TestOneWordByOne(t *testing.T) {
	for _, x := range sample.Edges() {
		for _, y := range sample.Edges() {
			for _, f := range []int{8, 15, 23, 32} {
				holds(t, of([]int{1, 1}, x), of([]int{1, 1}, y), f)
			}
		}
	}
}

func TestAMatrixByAMatrix(t *testing.T) {
	a := of([]int{2, 3}, 1, 2, 3, 4, 5, 6)
	b := of([]int{3, 2}, 7<<8, 8<<8, 9<<8, 10<<8, 11<<8, 12<<8)
	mulIs(t, a, b, 8, of([]int{2, 2}, 58, 64, 139, 154), api.OK)
	mulIs(t, b, a, 8, of([]int{3, 3}, 39, 54, 69, 49, 68, 87, 59, 82, 105), api.OK)
}

func TestABatchByOneMatrixForAll(t *testing.T) {
	a := of([]int{2, 1, 2}, 1, 2, 3, 4)
	b := of([]int{2, 3}, 256, 512, 0, 768, 0, -256)
	mulIs(t, a, b, 8, of([]int{2, 1, 3}, 7, 2, -2, 15, 6, -4), api.OK)
	a = of([]int{2, 2, 1, 2}, 1, 2, 3, 4, 5, 6, 7, 8)
	mulIs(t, a, b, 8, of([]int{2, 2, 1, 3}, 7, 2, -2, 15, 6, -4, 23, 10, -6, 31, 14, -8), api.OK)
}

func TestABatchByABatchWithOneEach(t *testing.T) {
	a := of([]int{2, 1, 2}, 1, 2, 3, 4)
	b := of([]int{2, 2, 2}, 256, 512, 0, 768, -256, 0, 2560, 256)
	mulIs(t, a, b, 8, of([]int{2, 1, 2}, 1, 8, 37, 4), api.OK)
	a = of([]int{2, 2, 1, 1}, 1, 2, 3, 4)
	b = of([]int{2, 2, 1, 2}, 256, 512, 768, 1024, 1280, 1536, 1792, 2048)
	mulIs(t, a, b, 8, of([]int{2, 2, 1, 2}, 1, 2, 6, 8, 15, 18, 28, 32), api.OK)
	a = of([]int{2, 2, 1}, 1, 2, 3, 4)
	b = of([]int{2, 1, 1}, 256, 2560)
	mulIs(t, a, b, 8, of([]int{2, 2, 1}, 1, 2, 30, 40), api.OK)
}

func TestHalvesGoToTheEvenOne(t *testing.T) {
	for f := api.MinF; f <= api.MaxF; f++ {
		half := int64(1) << (f - 1)
		for _, c := range []struct{ n, want int64 }{{1, 0}, {3, 2}, {5, 2}, {7, 4}, {-1, 0}, {-3, -2}, {-5, -2}, {-7, -4}} {
			mulIs(t, of([]int{1, 1}, c.n), of([]int{1, 1}, half), f, of([]int{1, 1}, c.want), api.OK)
			mulIs(t, of([]int{1, 1}, half), of([]int{1, 1}, c.n), f, of([]int{1, 1}, c.want), api.OK)
			mulIs(t, of([]int{1, 2}, c.n, c.n), of([]int{2, 1}, half-1, 1), f, of([]int{1, 1}, c.want), api.OK)
			mulIs(t, of([]int{1, 2}, c.n, 1), of([]int{2, 1}, half, 1), f, of([]int{1, 1}, (c.n+1)/2), api.OK)
			mulIs(t, of([]int{1, 2}, c.n, -1), of([]int{2, 1}, half, 1), f, of([]int{1, 1}, (c.n-1)/2), api.OK)
		}
	}
}

func TestASumIsRoundedOnce(t *testing.T) {
	quarter := of([]int{4, 1}, 1<<6, 1<<6, 1<<6, 1<<6)
	mulIs(t, of([]int{1, 4}, 1, 1, 1, 1), quarter, 8, of([]int{1, 1}, 1), api.OK) // each by itself would go to 0
	mulIs(t, of([]int{1, 4}, 3, 3, 3, 3), quarter, 8, of([]int{1, 1}, 3), api.OK)
	mulIs(t, of([]int{1, 4}, -3, -3, -3, -3), quarter, 8, of([]int{1, 1}, -3), api.OK)
	mulIs(t, of([]int{1, 4}, 1, 1, 1, 3), quarter, 8, of([]int{1, 1}, 2), api.OK) // a half, to even
	mulIs(t, of([]int{1, 4}, 1, 1, 0, 0), quarter, 8, of([]int{1, 1}, 0), api.OK)
	mulIs(t, filled([]int{1, 4096}, 1), filled([]int{4096, 1}, 1), 12, of([]int{1, 1}, 1), api.OK)
	mulIs(t, filled([]int{1, 4096}, 1), filled([]int{4096, 1}, 1), 13, of([]int{1, 1}, 0), api.OK)
	mulIs(t, filled([]int{1, 4096}, 3), filled([]int{4096, 1}, -1), 13, of([]int{1, 1}, -2), api.OK)
}

func TestSumsThatAreNoWords(t *testing.T) {
	for _, f := range []int{8, 16, 32} {
		one := int64(1) << f
		for _, c := range []struct {
			words []int64
			want  int64 // 0: ErrOver
		}{
			{[]int64{most, 1}, 0}, {[]int64{-most, -1}, 0}, {[]int64{1 << 46, 1 << 46}, 0}, {[]int64{-1 << 46, -1 << 46}, 0}, {[]int64{most, most}, 0}, {[]int64{-most, -most}, 0},
			{[]int64{1 << 46, 1<<46 - 1}, most}, {[]int64{-1 << 46, -1<<46 + 1}, -most},
			{[]int64{most, 1, -1}, most}, {[]int64{-most, -1, 1}, -most}, {[]int64{most, most, -most}, most}, {[]int64{-most, -most, most}, -most}, {[]int64{most, most, most, -most, -most, -7}, most - 7}, {[]int64{1, most, -1}, most},
		} {
			want, wantE := of([]int{1, 1}, c.want), api.OK
			if c.want == 0 {
				want, wantE = api.Tensor{}, api.ErrOver
			}
			n := len(c.words)
			mulIs(t, of([]int{1, n}, c.words...), filled([]int{n, 1}, one), f, want, wantE)
			mulIs(t, filled([]int{1, n}, one), of([]int{n, 1}, c.words...), f, want, wantE)
		}
	}
}

func TestPartsThatAreNoWords(t *testing.T) {
	for f := api.MinF; f <= api.MaxF; f++ {
		two := int64(2) << f
		mulIs(t, of([]int{1, 2}, two, two), of([]int{2, 1}, most, -most+3), f, of([]int{1, 1}, 6), api.OK)
		mulIs(t, of([]int{1, 2}, -most, most), of([]int{2, 1}, most, most), f, of([]int{1, 1}, 0), api.OK)
		mulIs(t, of([]int{1, 1}, two), of([]int{1, 1}, most), f, api.Tensor{}, api.ErrOver)
	}
}

func TestWordsJustBelowAndJustAbove(t *testing.T) {
	for f := api.MinF; f <= api.MaxF; f++ {
		half, one := int64(1)<<(f-1), int64(1)<<f
		for _, sign := range []int64{1, -1} {
			mulIs(t, of([]int{1, 2}, sign*most, sign*1), of([]int{2, 1}, one, half-1), f, of([]int{1, 1}, sign*most), api.OK)
			mulIs(t, of([]int{1, 2}, sign*most, sign*1), of([]int{2, 1}, one, half), f, api.Tensor{}, api.ErrOver) // the even one of both is 2^47
			mulIs(t, of([]int{1, 2}, sign*(most-1), sign*1), of([]int{2, 1}, one, half), f, of([]int{1, 1}, sign*(most-1)), api.OK)
			mulIs(t, of([]int{1, 2}, sign*(most-1), sign*1), of([]int{2, 1}, one, half+1), f, of([]int{1, 1}, sign*most), api.OK)
		}
	}
}

func TestAnyWordsErrorIsTold(t *testing.T) {
	for _, p := range pairs() {
		ones, words := filled(p.a, 1), sample.Count(p.a)
		for n := range words {
			a := api.Tensor{Shape: p.a, Data: slices.Clone(ones.Data)}
			a.Data[n] = most
			mulIs(t, a, filled(p.b, 512), 8, api.Tensor{}, api.ErrOver)
			a.Data[n] = -most
			mulIs(t, a, filled(p.b, 512), 8, api.Tensor{}, api.ErrOver)
		}
	}
	mulIs(t, of([]int{2, 1}, 1, most), of([]int{1, 1}, 512), 8, api.Tensor{}, api.ErrOver)
	mulIs(t, of([]int{1, 1}, 512), of([]int{1, 3}, 1, most, 2), 8, api.Tensor{}, api.ErrOver)
	mulIs(t, of([]int{3, 1, 1}, 1, 1, most), of([]int{3, 1, 1}, 512, 512, 512), 8, api.Tensor{}, api.ErrOver)
	mulIs(t, of([]int{3, 1, 1}, 256, 256, most), of([]int{3, 1, 1}, most, most, 257), 8, api.Tensor{}, api.ErrOver)
	mulIs(t, of([]int{3, 1, 1}, 256, 256, most), of([]int{3, 1, 1}, most, most, 256), 8, of([]int{3, 1, 1}, most, most, most), api.OK)
}

func TestProductsOfAsManyWordsAsThereMayBe(t *testing.T) {
	ones := filled([]int{256, 256}, 1)
	mulIs(t, ones, ones, 8, ones, api.OK)
	mulIs(t, filled([]int{16, 4096}, most), filled([]int{4096, 16}, most), 32, api.Tensor{}, api.ErrOver)
	mulIs(t, filled([]int{16, 4096}, -most), filled([]int{4096, 16}, most), 8, api.Tensor{}, api.ErrOver)
	mulIs(t, filled([]int{16, 4096}, 1<<32), filled([]int{4096, 16}, 1<<32-1), 32, filled([]int{16, 16}, 1<<44-1<<12), api.OK)
	mulIs(t, filled([]int{4096, 1}, 1), filled([]int{1, 16}, 256), 8, filled([]int{4096, 16}, 1), api.OK)
	mulIs(t, filled([]int{16, 1}, 1), filled([]int{1, 4096}, 256), 8, filled([]int{16, 4096}, 1), api.OK)
	mulIs(t, filled([]int{16, 4096, 1}, 1), of([]int{1, 1}, 256), 8, filled([]int{16, 4096, 1}, 1), api.OK)
	mulIs(t, filled([]int{4096, 4, 4}, 64), filled([]int{4096, 4, 4}, 1), 8, filled([]int{4096, 4, 4}, 1), api.OK)
	mulIs(t, filled([]int{16, 16, 16, 16}, 16), filled([]int{16, 16, 16, 16}, 1), 8, filled([]int{16, 16, 16, 16}, 1), api.OK)
}

func TestRanksThatAreNone(t *testing.T) {
	for _, p := range []pair{
		{nil, []int{1, 1}}, {[]int{}, []int{1, 1}}, {[]int{1}, []int{1, 1}}, {[]int{3}, []int{3, 2}}, {[]int{1, 1}, nil}, {[]int{1, 1}, []int{1}}, {[]int{2, 3}, []int{3}}, {nil, nil}, {[]int{1}, []int{1}}, {[]int{3}, []int{3}}, {nil, []int{1}},
		{[]int{2, 2, 3}, []int{3}}, {[]int{2, 2, 3, 1}, []int{1}}, {[]int{1, 1, 1}, nil},
		{[]int{2, 3}, []int{1, 3, 2}}, {[]int{2, 3}, []int{2, 3, 2}}, {[]int{2, 3}, []int{1, 1, 3, 2}}, {[]int{1, 2, 3}, []int{1, 1, 3, 2}}, {[]int{1, 1, 2, 3}, []int{1, 3, 2}}, {[]int{2, 4, 2, 3}, []int{4, 3, 2}}, {[]int{1, 1}, []int{1, 1, 1}}, {[]int{1}, []int{1, 1, 1}}, {nil, []int{1, 1, 1, 1}},
	} {
		mulIs(t, filled(p.a, 1), filled(p.b, 1), 8, api.Tensor{}, api.ErrShape)
		mulIs(t, filled(p.a, most), filled(p.b, most), 8, api.Tensor{}, api.ErrShape) // with sums that are no words
	}
}

func TestDimensionsThatDoNotGoTogether(t *testing.T) {
	for _, p := range []pair{
		{[]int{2, 3}, []int{2, 3}}, {[]int{2, 3}, []int{4, 2}}, {[]int{2, 3}, []int{1, 2}}, {[]int{2, 1}, []int{3, 2}}, {[]int{3, 2}, []int{3, 3}}, {[]int{1, 1}, []int{2, 1}}, {[]int{1, 6}, []int{3, 2}},
		{[]int{2, 2, 3}, []int{2, 2}}, {[]int{3, 2, 2}, []int{3, 2}}, {[]int{2, 3, 1, 1}, []int{3, 1}},
		{[]int{2, 2, 3}, []int{2, 2, 3}}, {[]int{2, 2, 3}, []int{2, 1, 3}}, {[]int{2, 1, 1}, []int{2, 2, 1}},
		{[]int{2, 2, 3}, []int{1, 3, 2}}, {[]int{1, 2, 3}, []int{2, 3, 2}}, {[]int{2, 2, 3}, []int{3, 3, 2}}, {[]int{4, 1, 1}, []int{2, 1, 1}},
		{[]int{2, 3, 1, 2}, []int{2, 1, 2, 1}}, {[]int{2, 3, 1, 2}, []int{1, 3, 2, 1}}, {[]int{2, 3, 1, 2}, []int{3, 2, 2, 1}}, {[]int{1, 6, 1, 2}, []int{2, 3, 2, 1}}, {[]int{2, 2, 2, 3}, []int{2, 2, 2, 3}}, {[]int{1, 1, 1, 1}, []int{1, 2, 1, 1}},
	} {
		mulIs(t, filled(p.a, 1), filled(p.b, 1), 8, api.Tensor{}, api.ErrShape)
		mulIs(t, filled(p.a, most), filled(p.b, most), 8, api.Tensor{}, api.ErrShape)
	}
}

func TestAnswersThatHaveTooManyWords(t *testing.T) {
	for _, p := range []pair{
		{[]int{4096, 1}, []int{1, 17}}, {[]int{17, 1}, []int{1, 4096}}, {[]int{4096, 1}, []int{1, 4096}}, {[]int{257, 1}, []int{1, 256}}, {[]int{256, 2}, []int{2, 257}}, {[]int{4096, 16}, []int{16, 17}},
		{[]int{16, 16, 1}, []int{1, 257}}, {[]int{2, 4096, 1}, []int{1, 9}}, {[]int{16, 16, 16, 1}, []int{1, 17}},
		{[]int{2, 4096, 1}, []int{2, 1, 4096}}, {[]int{16, 64, 1}, []int{16, 1, 65}}, {[]int{4, 4, 64, 1}, []int{4, 4, 1, 65}},
	} {
		mulIs(t, filled(p.a, 1), filled(p.b, 1), 8, api.Tensor{}, api.ErrBudget)
		mulIs(t, filled(p.a, most), filled(p.b, most), 8, api.Tensor{}, api.ErrBudget)
	}
}

func TestErrorsOfMulInTheirOrder(t *testing.T) {
	long, wrong := pair{[]int{4096, 1}, []int{1, 4096}}, pair{[]int{4096, 1}, []int{2, 4096}}
	mulIs(t, filled(long.a, most), filled(long.b, most), 8, api.Tensor{}, api.ErrBudget)
	mulIs(t, filled(wrong.a, most), filled(wrong.b, most), 8, api.Tensor{}, api.ErrShape)
	for _, p := range append(pairs(), long, wrong, pair{nil, nil}, pair{[]int{1}, []int{1}}) {
		a, b := filled(p.a, most), filled(p.b, most)
		for _, f := range sample.NoCounts() {
			mulIs(t, a, b, f, api.Tensor{}, api.ErrForm)
		}
		for _, v := range sample.NoWords() {
			for _, n := range []int{0, len(a.Data) / 2, len(a.Data) - 1} {
				bad := api.Tensor{Shape: p.a, Data: slices.Clone(a.Data)}
				bad.Data[n] = v
				mulIs(t, bad, b, 8, api.Tensor{}, api.ErrForm)
			}
			for _, n := range []int{0, len(b.Data) / 2, len(b.Data) - 1} {
				bad := api.Tensor{Shape: p.b, Data: slices.Clone(b.Data)}
				bad.Data[n] = v
				mulIs(t, a, bad, 8, api.Tensor{}, api.ErrForm)
			}
		}
	}
}

func TestNoTensorsAreToldFirst(t *testing.T) {
	for _, bad := range sample.NoTensors() {
		for _, f := range []int{8, 32, 7} {
			mulIs(t, bad, of([]int{1, 1}, most), f, api.Tensor{}, api.ErrForm)
			mulIs(t, of([]int{1, 1}, most), bad, f, api.Tensor{}, api.ErrForm)
			mulIs(t, bad, of(nil, 1), f, api.Tensor{}, api.ErrForm)
			mulIs(t, of(nil, 1), bad, f, api.Tensor{}, api.ErrForm)
			mulIs(t, bad, bad, f, api.Tensor{}, api.ErrForm)
		}
		turnIs(t, bad, api.Tensor{}, api.ErrForm)
	}
	for _, p := range pairs() {
		for _, more := range []int{-1, 1} {
			a, b := make([]int64, sample.Count(p.a)+more), make([]int64, sample.Count(p.b)+more)
			mulIs(t, of(p.a, a...), filled(p.b, 1), 8, api.Tensor{}, api.ErrForm)
			mulIs(t, filled(p.a, 1), of(p.b, b...), 8, api.Tensor{}, api.ErrForm)
		}
	}
	mulIs(t, api.Tensor{}, api.Tensor{}, 8, api.Tensor{}, api.ErrForm)
	turnIs(t, api.Tensor{}, api.Tensor{}, api.ErrForm)
}

func TestExample(t *testing.T) {
	mulIs(t, of([]int{1, 2}, 256, 512), of([]int{2, 1}, 256, 128), 8, of([]int{1, 1}, 512), api.OK)
}

// P10.2

// turned is t with its last two axes changed, word by word.
func turned(a api.Tensor) api.Tensor {
	last := len(a.Shape) - 1
	want := api.Tensor{Shape: slices.Clone(a.Shape)}
	want.Shape[last-1], want.Shape[last] = a.Shape[last], a.Shape[last-1]
	for _, i := range indexes(want.Shape) {
		i[last-1], i[last] = i[last], i[last-1]
		want.Data = append(want.Data, a.Data[at(a.Shape, i)])
	}
	return want
}

// matrices are shapes that may be turned.
func matrices() [][]int {
	list := [][]int{{256, 256}, {16, 4096}, {4096, 16}, {2, 4096, 1}, {16, 16, 16, 16}}
	for _, s := range sample.Shapes() {
		if len(s) >= 2 {
			list = append(list, s)
		}
	}
	return list
}

func TestTurns(t *testing.T) {
	turnIs(t, of([]int{2, 3}, 1, 2, 3, 4, 5, 6), of([]int{3, 2}, 1, 4, 2, 5, 3, 6), api.OK)
	turnIs(t, of([]int{1, 3}, 1, 2, 3), of([]int{3, 1}, 1, 2, 3), api.OK)
	turnIs(t, of([]int{1, 1}, -most), of([]int{1, 1}, -most), api.OK)
	turnIs(t, of([]int{2, 2, 2}, 1, 2, 3, 4, 5, 6, 7, 8), of([]int{2, 2, 2}, 1, 3, 2, 4, 5, 7, 6, 8), api.OK)
	turnIs(t, of([]int{2, 1, 3}, 1, 2, 3, 4, 5, 6), of([]int{2, 3, 1}, 1, 2, 3, 4, 5, 6), api.OK)
	turnIs(t, of([]int{2, 1, 2, 2}, 1, 2, 3, 4, 5, 6, 7, 8), of([]int{2, 1, 2, 2}, 1, 3, 2, 4, 5, 7, 6, 8), api.OK)
	turnIs(t, of([]int{1, 2, 3, 1}, 1, 2, 3, 4, 5, 6), of([]int{1, 2, 1, 3}, 1, 2, 3, 4, 5, 6), api.OK)
}

func TestTurnsOfAllShapes(t *testing.T) {
	m := mixer.Mixer(103)
	for _, s := range matrices() {
		a := sample.Tensor(&m, s, 47)
		turnIs(t, a, turned(a), api.OK)
		turnIs(t, turned(a), a, api.OK) // there and back
	}
}

func TestTurnsThereAndBack(t *testing.T) {
	m := mixer.Mixer(104)
	for _, s := range matrices() {
		a := sample.Tensor(&m, s, 47)
		there, e := matmul.Turn(a)
		if e != api.OK {
			t.Errorf("Turn of shape %v: %v", s, e)
		}
		turnIs(t, there, a, api.OK)
	}
}

func TestTurnsOfLowRanks(t *testing.T) {
	for _, a := range []api.Tensor{of(nil, 1), of([]int{}, most), row(1), row(1, 2, 3), filled([]int{4096}, -most)} {
		turnIs(t, a, api.Tensor{}, api.ErrShape)
	}
	for _, v := range sample.NoWords() { // ahead of the rank
		turnIs(t, of(nil, v), api.Tensor{}, api.ErrForm)
		turnIs(t, row(1, v), api.Tensor{}, api.ErrForm)
		turnIs(t, of([]int{2, 1}, 1, v), api.Tensor{}, api.ErrForm)
	}
	turnIs(t, of([]int{2}, 1), api.Tensor{}, api.ErrForm)
}

// P10.3

// diagonal has 1 on its diagonal in each of its matrices.
func diagonal(ahead []int, d, f int) api.Tensor {
	a := filled(append(slices.Clone(ahead), d, d), 0)
	for n := range a.Data {
		if n/d%d == n%d {
			a.Data[n] = 1 << f
		}
	}
	return a
}

func TestOneOnTheDiagonalChangesNothing(t *testing.T) {
	m := mixer.Mixer(105)
	for _, s := range [][]int{{1, 1}, {2, 3}, {3, 2}, {1, 5}, {5, 1}, {64, 64}, {2, 3, 4}, {1, 3, 2}, {4, 1, 1}, {2, 3, 2, 3}, {1, 1, 4, 2}} {
		last := len(s) - 1
		for f := api.MinF; f <= api.MaxF; f++ {
			a := sample.Tensor(&m, s, 47)
			a.Data[0], a.Data[len(a.Data)-1] = -most, most
			mulIs(t, a, diagonal(nil, s[last], f), f, a, api.OK)
			mulIs(t, a, diagonal(s[:last-1], s[last], f), f, a, api.OK)
			mulIs(t, diagonal(s[:last-1], s[last-1], f), a, f, a, api.OK)
		}
	}
}

func TestATurnedProductIsTheProductOfBothTurned(t *testing.T) {
	m := mixer.Mixer(106)
	for _, p := range pairs() {
		if len(p.a) != len(p.b) {
			continue // turned the other way round they do not go together
		}
		for f := api.MinF; f <= api.MaxF; f++ {
			for _, bits := range []int{10, 30, 42} {
				a, b := sample.Tensor(&m, p.a, bits), sample.Tensor(&m, p.b, f)
				c, e := matmul.Mul(a, b, f)
				want := api.Tensor{}
				if e == api.OK {
					want = turned(c)
				}
				x, xe := matmul.Turn(a)
				y, ye := matmul.Turn(b)
				if xe != api.OK || ye != api.OK {
					t.Errorf("turns of %v, %v: %v, %v", a, b, xe, ye)
				}
				mulIs(t, y, x, f, want, e)
			}
		}
	}
}

func TestBlocksOfRowsAreTheProductsRows(t *testing.T) {
	m := mixer.Mixer(107)
	for range 200 {
		rows, depth, columns, f := 1+m.Below(6), 1+m.Below(6), 1+m.Below(6), api.MinF+m.Below(api.MaxF-api.MinF+1)
		a, b := sample.Tensor(&m, []int{rows, depth}, 40), sample.Tensor(&m, []int{depth, columns}, f)
		whole, e := matmul.Mul(a, b, f)
		if e != api.OK {
			t.Fatalf("Mul(%v, %v, %d): %v", a, b, f, e)
		}
		for from := range rows {
			for to := from + 1; to <= rows; to++ {
				part := of([]int{to - from, depth}, a.Data[from*depth:to*depth]...)
				mulIs(t, part, b, f, of([]int{to - from, columns}, whole.Data[from*columns:to*columns]...), api.OK)
			}
		}
	}
}

func TestMatricesOfABatchAreTheirOwnProducts(t *testing.T) {
	m := mixer.Mixer(108)
	for _, p := range pairs() {
		last := len(p.a) - 1
		a, b := sample.Tensor(&m, p.a, 25), sample.Tensor(&m, p.b, 25)
		whole, e := matmul.Mul(a, b, 12)
		if e != api.OK {
			t.Fatalf("Mul(%v, %v, 12): %v", a, b, e)
		}
		n, of1 := p.a[last-1]*p.a[last], p.b[len(p.b)-2:]
		many := len(a.Data) / n
		for k := range many {
			matrix := b.Data
			if len(p.b) > 2 {
				matrix = matrix[k*sample.Count(of1):][:sample.Count(of1)]
			}
			words := len(whole.Data) / many
			mulIs(t, of(p.a[last-1:], a.Data[k*n:][:n]...), of(of1, matrix...), 12, of([]int{p.a[last-1], of1[1]}, whole.Data[k*words:][:words]...), api.OK)
		}
	}
}

// R2: what was handed in stays, what was told may be written to.

func TestArgumentsStayAndAnswersAreNew(t *testing.T) {
	s, data := []int{2, 2, 2}, []int64{256, 512, 1, 700, 3, 512, -256, 0}
	for _, others := range [][]int{{2, 2, 2}, {2, 2}} {
		words := data[:sample.Count(others)]
		a, b := sample.Roomy(s, data), sample.Roomy(others, words)
		for k, call := range []func() (api.Tensor, api.Errno){
			func() (api.Tensor, api.Errno) { return matmul.Mul(a, b, 8) },
			func() (api.Tensor, api.Errno) { return matmul.Mul(a, a, 8) },
			func() (api.Tensor, api.Errno) { return matmul.Turn(a) },
			func() (api.Tensor, api.Errno) { return matmul.Turn(b) },
		} {
			first, e := call()
			second, _ := call()
			if e != api.OK || !sample.Same(first, second) {
				t.Errorf("call %d: %v, %v, %v", k, first, second, e)
			}
			before := api.Tensor{Shape: slices.Clone(second.Shape), Data: slices.Clone(second.Data)}
			sample.Spoil(first)
			third, _ := call()
			if !sample.Same(second, before) || !sample.Same(third, before) {
				t.Errorf("call %d shares: %v, %v; want %v", k, second, third, before)
			}
			if !sample.AsHandedIn(a, s, data) || !sample.AsHandedIn(b, others, words) {
				t.Errorf("call %d changed: %v, %v", k, a, b)
			}
		}
	}
}

func TestArgumentsStayBesideErrors(t *testing.T) {
	s, data := []int{2, 1}, []int64{most, 1}
	a := sample.Roomy(s, data)
	none := sample.Roomy(s, []int64{most, 1 << 47})
	over := sample.Roomy([]int{1, 2}, []int64{512, 512})
	mulIs(t, a, over, 8, api.Tensor{}, api.ErrOver)
	mulIs(t, a, a, 8, api.Tensor{}, api.ErrShape)
	mulIs(t, a, over, 7, api.Tensor{}, api.ErrForm)
	mulIs(t, none, over, 8, api.Tensor{}, api.ErrForm)
	mulIs(t, over, none, 8, api.Tensor{}, api.ErrForm)
	turnIs(t, none, api.Tensor{}, api.ErrForm)
	if !sample.AsHandedIn(a, s, data) || !sample.AsHandedIn(none, s, []int64{most, 1 << 47}) || !sample.AsHandedIn(over, []int{1, 2}, []int64{512, 512}) {
		t.Errorf("%v, %v, %v", a, none, over)
	}
}
