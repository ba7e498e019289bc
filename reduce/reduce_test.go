package reduce_test

import (
	"math"
	"math/big"
	"slices"
	"testing"

	"ratchet/api"
	"ratchet/mixer"
	"ratchet/reduce"
	"ratchet/sample"
)

const most = sample.Most

var of, row, filled = sample.Of, sample.Row, sample.Filled

func isTold(t *testing.T, what string, from api.Tensor, axes []int, got api.Tensor, e api.Errno, want api.Tensor, wantE api.Errno) {
	t.Helper()
	if e != wantE || !sample.Same(got, want) || e != api.OK && !sample.IsZero(got) {
		t.Errorf("%s of %v by %v: %v, %v; want %v, %v", what, from, axes, got, e, want, wantE)
	}
}

func sumIs(t *testing.T, from api.Tensor, axes []int, want api.Tensor, wantE api.Errno) {
	t.Helper()
	got, e := reduce.Sum(from, axes)
	isTold(t, "Sum", from, axes, got, e, want, wantE)
}

func meanIs(t *testing.T, from api.Tensor, axes []int, want api.Tensor, wantE api.Errno) {
	t.Helper()
	got, e := reduce.Mean(from, axes)
	isTold(t, "Mean", from, axes, got, e, want, wantE)
}

func maxIs(t *testing.T, from api.Tensor, axis int, want api.Tensor, wantPicks []int, wantE api.Errno) {
	t.Helper()
	got, picks, e := reduce.Max(from, axis)
	isTold(t, "Max", from, []int{axis}, got, e, want, wantE)
	if !slices.Equal(picks, wantPicks) || e != api.OK && picks != nil {
		t.Errorf("Max of %v by %d: picks %v; want %v", from, axis, picks, wantPicks)
	}
}

func allTell(t *testing.T, from api.Tensor, axes []int, want api.Errno) {
	t.Helper()
	sumIs(t, from, axes, api.Tensor{}, want)
	meanIs(t, from, axes, api.Tensor{}, want)
	if len(axes) == 1 {
		maxIs(t, from, axes[0], api.Tensor{}, nil, want)
	}
}

// lotsOf are all lists of axes of a rank, none and all of them too.
func lotsOf(rank int) [][]int {
	list := [][]int{nil}
	for axis := range rank {
		for _, axes := range list {
			list = append(list, append(slices.Clone(axes), axis))
		}
	}
	return list
}

// noAxes are lists that are none of a tensor of this rank.
func noAxes(rank int) [][]int {
	list := [][]int{{-1}, {rank}, {rank + 1}, {-rank - 1}, {math.MinInt}, {math.MaxInt}, {-1, 0}, {0, 0}, {0, rank}, {0, math.MaxInt}, {rank, 0}, {1, 0}, {math.MinInt, math.MaxInt}, {0, -1}, make([]int, 5), make([]int, 100000), {1 << 32}, {1<<32 + 1}, {0, 1 << 32}}
	all := make([]int, rank)
	for k := range all {
		all[k] = k
	}
	list = append(list, append(slices.Clone(all), rank), append([]int{-1}, all...))
	if rank > 0 {
		list = append(list, append(slices.Clone(all), rank-1), append([]int{rank - 1}, all...))
	}
	if rank > 1 {
		back := slices.Clone(all)
		slices.Reverse(back)
		list = append(list, back, []int{rank - 1, 0}, []int{0, rank - 1, rank - 1})
	}
	if rank > 2 {
		list = append(list, []int{0, 2, 1}, []int{1, 2, 0}, []int{0, 2, 2})
	}
	return list
}

// groupsOf lays the words of t out, by the other axes' indexes in order, each group in its own order: digit by digit from the last dimension on.
func groupsOf(t api.Tensor, axes []int) (others []int, groups [][]int64) {
	for k, d := range t.Shape {
		if !slices.Contains(axes, k) {
			others = append(others, d)
		}
	}
	groups = make([][]int64, sample.Count(others))
	for n, v := range t.Data {
		at, stride := 0, 1
		for k, d := range slices.Backward(t.Shape) {
			if !slices.Contains(axes, k) {
				at += n % d * stride
				stride *= d
			}
			n /= d
		}
		groups[at] = append(groups[at], v)
	}
	return others, groups
}

func bigSum(words []int64) *big.Int {
	sum := new(big.Int)
	for _, v := range words {
		sum.Add(sum, big.NewInt(v))
	}
	return sum
}

// bigMean is the floor of the double and one more, halved, unless that is a half and odd.
func bigMean(words []int64) *big.Int {
	n := big.NewInt(int64(len(words)))
	twice := new(big.Int).Lsh(bigSum(words), 1)
	up, rest := new(big.Int).DivMod(twice.Add(twice, n), new(big.Int).Lsh(n, 1), new(big.Int))
	if rest.Sign() == 0 && up.Bit(0) == 1 {
		up.Sub(up, big.NewInt(1))
	}
	return up
}

func reducedBy(t api.Tensor, axes []int, group func([]int64) *big.Int) (api.Tensor, api.Errno) {
	others, groups := groupsOf(t, axes)
	want := api.Tensor{Shape: others}
	for _, words := range groups {
		b := group(words)
		if b.CmpAbs(big.NewInt(most)) > 0 {
			return api.Tensor{}, api.ErrOver
		}
		want.Data = append(want.Data, b.Int64())
	}
	return want, api.OK
}

func holds(t *testing.T, from api.Tensor, axes []int) {
	t.Helper()
	want, e := reducedBy(from, axes, bigSum)
	sumIs(t, from, axes, want, e)
	want, e = reducedBy(from, axes, bigMean)
	meanIs(t, from, axes, want, e)
	if len(axes) != 1 {
		return
	}
	others, groups := groupsOf(from, axes)
	want = api.Tensor{Shape: others}
	var picks []int
	for _, words := range groups {
		greatest := slices.Max(words)
		want.Data, picks = append(want.Data, greatest), append(picks, slices.Index(words, greatest))
	}
	maxIs(t, from, axes[0], want, picks, api.OK)
}

func allShapes() [][]int {
	return append(sample.Shapes(), []int{2, 2, 2}, []int{3, 2, 4, 5}, []int{1, 1}, []int{7, 1, 1, 2}, []int{256, 256})
}

// P9.1 and P9.2

func TestAllTensorsByAllAxes(t *testing.T) {
	m := mixer.Mixer(91)
	for _, s := range allShapes() {
		for _, axes := range lotsOf(len(s)) {
			for _, bits := range []int{2, 20, 40, 47} { // some are full of equal words, some have sums that are no words
				holds(t, sample.Tensor(&m, s, bits), axes)
			}
		}
	}
}

func TestAllTensorsOfTheGreatestAndTheLeastWords(t *testing.T) {
	m := mixer.Mixer(92)
	for _, s := range allShapes() {
		mixed := sample.Signed(&m, s)
		for _, axes := range lotsOf(len(s)) {
			holds(t, filled(s, most), axes)
			holds(t, filled(s, -most), axes)
			holds(t, filled(s, 0), axes)
			holds(t, mixed, axes)
		}
	}
}

// P9.1

func TestByEachAxis(t *testing.T) {
	a := of([]int{2, 3, 2}, 1, 2, 3, 4, 5, 6, 70, 80, 90, 100, 110, 120)
	sumIs(t, a, []int{0}, of([]int{3, 2}, 71, 82, 93, 104, 115, 126), api.OK)
	sumIs(t, a, []int{1}, of([]int{2, 2}, 9, 12, 270, 300), api.OK)
	sumIs(t, a, []int{2}, of([]int{2, 3}, 3, 7, 11, 150, 190, 230), api.OK)
	sumIs(t, a, []int{0, 1}, of([]int{2}, 279, 312), api.OK)
	sumIs(t, a, []int{0, 2}, of([]int{3}, 153, 197, 241), api.OK)
	sumIs(t, a, []int{1, 2}, of([]int{2}, 21, 570), api.OK)
	sumIs(t, a, []int{0, 1, 2}, of(nil, 591), api.OK)
	meanIs(t, a, []int{0}, of([]int{3, 2}, 36, 41, 46, 52, 58, 63), api.OK) // 35.5 and 46.5, to even
	meanIs(t, a, []int{1}, of([]int{2, 2}, 3, 4, 90, 100), api.OK)
	meanIs(t, a, []int{2}, of([]int{2, 3}, 2, 4, 6, 75, 95, 115), api.OK)
	meanIs(t, a, []int{0, 1}, of([]int{2}, 46, 52), api.OK)
	meanIs(t, a, []int{0, 2}, of([]int{3}, 38, 49, 60), api.OK)
	meanIs(t, a, []int{1, 2}, of([]int{2}, 4, 95), api.OK)
	meanIs(t, a, []int{0, 1, 2}, of(nil, 49), api.OK)
}

func TestByNoAxes(t *testing.T) {
	m := mixer.Mixer(93)
	for _, s := range allShapes() {
		for _, a := range []api.Tensor{sample.Tensor(&m, s, 47), filled(s, most), filled(s, -most)} {
			for _, axes := range [][]int{nil, {}} {
				sumIs(t, a, axes, a, api.OK)
				meanIs(t, a, axes, a, api.OK)
			}
		}
	}
}

func TestOfOneWord(t *testing.T) {
	for _, v := range sample.Edges() {
		for rank := range api.MaxRank + 1 {
			a := api.Tensor{Shape: slices.Repeat([]int{1}, rank), Data: []int64{v}}
			for _, axes := range lotsOf(rank) {
				want := api.Tensor{Shape: slices.Repeat([]int{1}, rank-len(axes)), Data: []int64{v}}
				sumIs(t, a, axes, want, api.OK)
				meanIs(t, a, axes, want, api.OK)
				if len(axes) == 1 {
					maxIs(t, a, axes[0], want, []int{0}, api.OK)
				}
			}
		}
	}
}

func TestAxesOfOne(t *testing.T) {
	words := []int64{most, -5, 0}
	a := of([]int{1, 3, 1}, words...)
	for _, c := range []struct{ axes, others []int }{{[]int{0}, []int{3, 1}}, {[]int{2}, []int{1, 3}}, {[]int{0, 2}, []int{3}}} {
		sumIs(t, a, c.axes, of(c.others, words...), api.OK)
		meanIs(t, a, c.axes, of(c.others, words...), api.OK)
		if len(c.axes) == 1 {
			maxIs(t, a, c.axes[0], of(c.others, words...), []int{0, 0, 0}, api.OK)
		}
	}
}

func TestSumsThatAreNoWords(t *testing.T) {
	for _, c := range []struct {
		a         api.Tensor
		axes      []int
		sum, mean []int64 // no sum: ErrOver
	}{
		{row(most, 1), []int{0}, nil, []int64{1 << 46}},
		{row(-most, -1), []int{0}, nil, []int64{-1 << 46}},
		{row(1<<46, 1<<46), []int{0}, nil, []int64{1 << 46}},
		{row(1<<46, 1<<46-1), []int{0}, []int64{most}, []int64{1 << 46}},
		{row(-1<<46, -1<<46+1), []int{0}, []int64{-most}, []int64{-1 << 46}},
		{row(most, most, -most), []int{0}, []int64{most}, []int64{46912496118442}},
		{row(most, most, -most, -most), []int{0}, []int64{0}, []int64{0}},
		{row(-most, -most, most, most, 7), []int{0}, []int64{7}, []int64{1}},
		{row(most, most, most, -most), []int{0}, nil, []int64{1 << 46}},
		{of([]int{2, 2}, 1, most, 2, 1), []int{0}, nil, []int64{2, 1 << 46}}, // the second one alone
		{of([]int{2, 2}, most, 1, 1, 2), []int{1}, nil, []int64{1 << 46, 2}},
		{of([]int{2, 2}, most, 1, -most, -2), []int{0}, []int64{0, -1}, []int64{0, 0}},
		{of([]int{2, 2}, most, 1, -most, -2), []int{0, 1}, []int64{-1}, []int64{0}},
		{of([]int{2, 2}, most, most, -most, -2), []int{0, 1}, []int64{most - 2}, []int64{1<<45 - 1}}, // though by axis 1 alone it is none
		{of([]int{2, 2}, most, most, -most, -2), []int{1}, nil, []int64{most, -1 << 46}},
	} {
		others, _ := groupsOf(c.a, c.axes)
		if c.sum == nil {
			sumIs(t, c.a, c.axes, api.Tensor{}, api.ErrOver)
		} else {
			sumIs(t, c.a, c.axes, api.Tensor{Shape: others, Data: c.sum}, api.OK)
		}
		meanIs(t, c.a, c.axes, api.Tensor{Shape: others, Data: c.mean}, api.OK)
	}
}

func TestSumsOfAsManyWordsAsThereMayBe(t *testing.T) {
	for _, s := range [][]int{{4096, 16}, {16, 16, 16, 16}, {256, 256}} {
		all := lotsOf(len(s))[1<<len(s)-1]
		for _, v := range []int64{most, -most, most - 1} {
			sumIs(t, filled(s, v), all, api.Tensor{}, api.ErrOver)
			meanIs(t, filled(s, v), all, of(nil, v), api.OK)
		}
		one := filled(s, 1<<31)
		sumIs(t, one, all, api.Tensor{}, api.ErrOver) // 2^47 just
		one.Data[4711]--
		sumIs(t, one, all, of(nil, most), api.OK)
		meanIs(t, one, all, of(nil, 1<<31), api.OK)
	}
}

func TestMeansOfHalves(t *testing.T) {
	for _, c := range []struct {
		words []int64
		want  int64
	}{
		{[]int64{0, 1}, 0}, {[]int64{1, 2}, 2}, {[]int64{2, 3}, 2}, {[]int64{3, 4}, 4}, {[]int64{0, -1}, 0}, {[]int64{-1, -2}, -2}, {[]int64{-2, -3}, -2}, {[]int64{-3, -4}, -4}, {[]int64{-3, 4}, 0}, {[]int64{3, -4}, 0}, {[]int64{-1, 4}, 2}, {[]int64{1, -4}, -2},
		{[]int64{1, 2, 3, 4}, 2}, {[]int64{2, 3, 4, 5}, 4}, {[]int64{-1, -2, -3, -4}, -2}, {[]int64{-2, -3, -4, -5}, -4}, {[]int64{0, 0, 0, 1}, 0}, {[]int64{0, 0, 0, 3}, 1}, {[]int64{0, 0, 0, -3}, -1}, {[]int64{0, 0, 1, 1}, 0}, {[]int64{1, 1, 2, 2}, 2}, {[]int64{0, 0, 0, 0, 0, 3}, 0}, {[]int64{0, 0, 0, 0, 0, 9}, 2},
		{[]int64{0, 0, 1}, 0}, {[]int64{0, 0, 2}, 1}, {[]int64{0, 0, -1}, 0}, {[]int64{0, 0, -2}, -1}, {[]int64{0, 0, 4}, 1}, {[]int64{0, 0, 5}, 2},
		{[]int64{most, most - 1}, most - 1}, {[]int64{-most, -most + 1}, -most + 1}, {[]int64{most - 1, most - 2}, most - 1}, {[]int64{-most + 1, -most + 2}, -most + 1},
	} {
		meanIs(t, row(c.words...), []int{0}, of(nil, c.want), api.OK)
		meanIs(t, of([]int{1, len(c.words)}, c.words...), []int{0, 1}, of(nil, c.want), api.OK)
		meanIs(t, of([]int{len(c.words), 1}, c.words...), []int{0}, row(c.want), api.OK)
	}
}

func TestAMeanIsOneRounding(t *testing.T) {
	a := of([]int{2, 2}, 0, 1, 1, 1) // 3/4; by each axis alone a half would go to 0
	meanIs(t, a, []int{0, 1}, of(nil, 1), api.OK)
	meanIs(t, a, []int{1}, row(0, 1), api.OK)
	meanIs(t, row(0, 1), []int{0}, of(nil, 0), api.OK)
}

func TestAxesThatAreNone(t *testing.T) {
	for _, s := range sample.Shapes() {
		for _, axes := range noAxes(len(s)) {
			if isLot(axes, len(s)) {
				t.Fatalf("%v are axes of %v", axes, s)
			}
			allTell(t, filled(s, 1), axes, api.ErrShape)
			allTell(t, filled(s, most), axes, api.ErrShape) // with sums that are no words
		}
	}
}

func isLot(axes []int, rank int) bool {
	return slices.ContainsFunc(lotsOf(rank), func(lot []int) bool { return slices.Equal(lot, axes) })
}

func TestNoTensorsAreToldFirst(t *testing.T) {
	for _, bad := range sample.NoTensors() {
		for _, axes := range [][]int{nil, {0}, {1}, {0, 1}, {-1}, {1, 0}, {0, 0}, {math.MaxInt}, {math.MinInt}} {
			allTell(t, bad, axes, api.ErrForm)
		}
	}
	allTell(t, api.Tensor{}, nil, api.ErrForm)
	allTell(t, api.Tensor{}, []int{0}, api.ErrForm)
	allTell(t, row(most, most, 1<<47), []int{0}, api.ErrForm)
	allTell(t, row(1<<47, -1<<47), []int{0}, api.ErrForm) // together they are one
	allTell(t, row(1<<47, -1<<47), []int{3}, api.ErrForm)
}

// P9.2

func TestMaxByEachAxis(t *testing.T) {
	a := of([]int{2, 3, 2}, 1, 8, 3, 4, 5, 8, 1, 9, 0, -4, 5, 9)
	maxIs(t, a, 0, of([]int{3, 2}, 1, 9, 3, 4, 5, 9), []int{0, 1, 0, 0, 0, 1}, api.OK)
	maxIs(t, a, 1, of([]int{2, 2}, 5, 8, 5, 9), []int{2, 0, 2, 0}, api.OK)
	maxIs(t, a, 2, of([]int{2, 3}, 8, 4, 8, 9, 0, 9), []int{1, 1, 1, 1, 0, 1}, api.OK)
}

func TestPicksOfEqualWords(t *testing.T) {
	maxIs(t, row(5, 7, 7), 0, of(nil, 7), []int{1}, api.OK)
	maxIs(t, row(7, 5, 7), 0, of(nil, 7), []int{0}, api.OK)
	maxIs(t, row(-7, -7, -8), 0, of(nil, -7), []int{0}, api.OK)
	maxIs(t, row(-8, -7, -7), 0, of(nil, -7), []int{1}, api.OK)
	maxIs(t, row(0, 0, 0, 0), 0, of(nil, 0), []int{0}, api.OK)
	maxIs(t, row(most-1, most, most), 0, of(nil, most), []int{1}, api.OK)
	maxIs(t, row(-most, -most), 0, of(nil, -most), []int{0}, api.OK)
	maxIs(t, row(-most, -most+1), 0, of(nil, -most+1), []int{1}, api.OK)
	maxIs(t, of([]int{3, 2}, 1, 4, 2, 4, 2, 3), 0, row(2, 4), []int{1, 0}, api.OK)
	maxIs(t, of([]int{2, 3}, 1, 2, 2, 4, 4, 3), 1, row(2, 4), []int{1, 0}, api.OK)
	long := make([]int64, 4096)
	long[4095] = 1
	maxIs(t, row(long...), 0, of(nil, 1), []int{4095}, api.OK)
	long[4000] = 1
	maxIs(t, row(long...), 0, of(nil, 1), []int{4000}, api.OK)
}

func TestAnAxisThatIsNone(t *testing.T) {
	for _, s := range sample.Shapes() {
		for _, axis := range []int{-1, len(s), len(s) + 1, -len(s) - 1, 4, 5, math.MinInt, math.MaxInt, 1 << 32, -1 << 32} {
			maxIs(t, filled(s, most), axis, api.Tensor{}, nil, api.ErrShape)
		}
	}
	maxIs(t, of(nil, 3), 0, api.Tensor{}, nil, api.ErrShape)
	maxIs(t, of([]int{}, 3), 0, api.Tensor{}, nil, api.ErrShape)
}

func TestExample(t *testing.T) {
	a := of([]int{2, 2}, 1, 2, 3, 4)
	sumIs(t, a, []int{0}, row(4, 6), api.OK)
	meanIs(t, a, []int{0, 1}, of(nil, 2), api.OK)
	maxIs(t, row(5, 7, 7), 0, of(nil, 7), []int{1}, api.OK)
}

// P9.3

// behind are axes as they are told once those of first are gone.
func behind(axes, first []int) []int {
	var list []int
	for _, axis := range axes {
		gone := 0
		for _, other := range first {
			if other < axis {
				gone++
			}
		}
		list = append(list, axis-gone)
	}
	return list
}

func TestSumByTwoLotsOfAxes(t *testing.T) {
	m := mixer.Mixer(94)
	for _, s := range sample.Shapes() {
		for _, both := range lotsOf(len(s)) {
			for _, pick := range lotsOf(len(both)) {
				var first, second []int
				for k, axis := range both {
					if slices.Contains(pick, k) {
						first = append(first, axis)
					} else {
						second = append(second, axis)
					}
				}
				for _, bits := range []int{20, 44, 47} {
					a := sample.Tensor(&m, s, bits)
					half, e := reduce.Sum(a, first)
					if e != api.OK {
						continue // what is not told has no sum
					}
					want, wantE := reduce.Sum(a, both)
					sumIs(t, half, behind(second, first), want, wantE)
				}
			}
		}
	}
}

func TestTheOrderOfWordsDoesNotMatter(t *testing.T) {
	m := mixer.Mixer(95)
	for range 300 {
		a := sample.Tensor(&m, []int{4, 6}, 20+m.Below(28))
		mixed := api.Tensor{Shape: a.Shape, Data: slices.Clone(a.Data)}
		for i := range 4 { // within each row
			for n := 5; n > 0; n-- {
				k := m.Below(n + 1)
				mixed.Data[6*i+n], mixed.Data[6*i+k] = mixed.Data[6*i+k], mixed.Data[6*i+n]
			}
		}
		for _, axes := range [][]int{{1}, {0, 1}} {
			sum, sumE := reduce.Sum(a, axes)
			sumIs(t, mixed, axes, sum, sumE)
			mean, meanE := reduce.Mean(a, axes)
			meanIs(t, mixed, axes, mean, meanE)
		}
		greatest, _, _ := reduce.Max(a, 1)
		if got, _, e := reduce.Max(mixed, 1); e != api.OK || !sample.Same(got, greatest) {
			t.Errorf("Max of %v: %v, of %v: %v, %v", a, greatest, mixed, got, e)
		}
	}
}

func TestMaxIsOneOfTheWords(t *testing.T) {
	m := mixer.Mixer(96)
	for _, s := range sample.Shapes() {
		for axis := range s {
			a := sample.Tensor(&m, s, 1+m.Below(47))
			got, picks, e := reduce.Max(a, axis)
			_, groups := groupsOf(a, []int{axis})
			if e != api.OK || len(got.Data) != len(groups) || len(picks) != len(groups) {
				t.Fatalf("Max of %v by %d: %v, %v, %v", a, axis, got, picks, e)
			}
			for n, words := range groups {
				if words[picks[n]] != got.Data[n] {
					t.Errorf("Max of %v by %d: %d at %d, pick %d", a, axis, got.Data[n], n, picks[n])
				}
			}
		}
	}
}

// R2: what was handed in stays, what was told may be written to.

func TestArgumentsStayAndAnswersAreNew(t *testing.T) {
	s, data := []int{2, 3}, []int64{256, 512, 1, 700, 3, 512}
	a := sample.Roomy(s, data)
	for _, axes := range lotsOf(2) {
		roomy := append(slices.Clone(axes), 91, 92)
		calls := []func() (api.Tensor, api.Errno){
			func() (api.Tensor, api.Errno) { return reduce.Sum(a, roomy[:len(axes)]) },
			func() (api.Tensor, api.Errno) { return reduce.Mean(a, roomy[:len(axes)]) },
		}
		for k, call := range calls {
			first, e := call()
			second, _ := call()
			if e != api.OK || !sample.Same(first, second) {
				t.Errorf("call %d: %v, %v, %v", k, first, second, e)
			}
			before := api.Tensor{Shape: slices.Clone(second.Shape), Data: slices.Clone(second.Data)}
			sample.Spoil(first)
			third, _ := call()
			if !sample.Same(second, before) || !sample.Same(third, before) {
				t.Errorf("call %d shares: %v, %v; want %v", k, second, third, before)
			}
			if !sample.AsHandedIn(a, s, data) || !slices.Equal(roomy, append(slices.Clone(axes), 91, 92)) {
				t.Errorf("call %d changed: %v, %v", k, a, roomy)
			}
		}
	}
}

func TestMaximaAndPicksAreNew(t *testing.T) {
	s, data := []int{2, 3}, []int64{256, 512, 1, 700, 3, 512}
	a := sample.Roomy(s, data)
	first, picks, e := reduce.Max(a, 1)
	second, others, _ := reduce.Max(a, 1)
	if e != api.OK {
		t.Fatal(e)
	}
	sample.Spoil(first)
	if !slices.Equal(picks, []int{1, 0}) {
		t.Errorf("picks share: %v", picks)
	}
	for k := range picks[:cap(picks)] {
		picks[:cap(picks)][k] = -9
	}
	if !sample.Same(second, row(512, 700)) || !slices.Equal(others, []int{1, 0}) || !sample.AsHandedIn(a, s, data) {
		t.Errorf("%v, %v, %v", second, others, a)
	}
	maxIs(t, a, 1, row(512, 700), []int{1, 0}, api.OK)
}

func TestArgumentsStayBesideErrors(t *testing.T) {
	s, data := []int{3}, []int64{most, 1, 1 << 47}
	none := sample.Roomy(s, data)
	over := sample.Roomy([]int{2}, []int64{most, 1})
	for _, axes := range noAxes(1) {
		reduce.Sum(none, axes)
		reduce.Mean(none, axes)
		reduce.Max(none, axes[0])
		reduce.Sum(over, []int{0})
		reduce.Sum(over, axes)
		reduce.Max(over, axes[0])
	}
	falling := []int{1, 0}
	allTell(t, of([]int{1, 1}, 1), falling, api.ErrShape)
	if !sample.AsHandedIn(none, s, data) || !sample.AsHandedIn(over, []int{2}, []int64{most, 1}) || !slices.Equal(falling, []int{1, 0}) {
		t.Errorf("%v, %v, %v", none, over, falling)
	}
}

func TestNilAndEmptyListsAreOne(t *testing.T) {
	full := api.Tensor{Shape: []int{}, Data: []int64{384}}
	for _, axes := range [][]int{nil, {}} {
		sumIs(t, full, axes, of(nil, 384), api.OK)
		meanIs(t, full, axes, of(nil, 384), api.OK)
		allTell(t, api.Tensor{Shape: []int{}, Data: []int64{}}, axes, api.ErrForm)
	}
}
