package soft_test

import (
	"math"
	"slices"
	"testing"

	"ratchet/api"
	"ratchet/mixer"
	"ratchet/sample"
	"ratchet/soft"
)

const most = sample.Most

var of, row = sample.Of, sample.Row

func is(t *testing.T, what string, x api.Tensor, f int, got api.Tensor, e api.Errno, want api.Tensor, wantE api.Errno) {
	t.Helper()
	if e != wantE || !sample.Same(got, want) || e != api.OK && !sample.IsZero(got) {
		t.Errorf("%s of %v, %d: %v, %v; want %v, %v", what, x, f, got, e, want, wantE)
	}
}

func softmaxIs(t *testing.T, x api.Tensor, f int, want ...int64) {
	t.Helper()
	got, e := soft.Softmax(x, f)
	is(t, "Softmax", x, f, got, e, of(x.Shape, want...), api.OK)
}

func maskedIs(t *testing.T, x api.Tensor, mask []int, f int, want ...int64) {
	t.Helper()
	got, e := soft.Masked(x, mask, f)
	is(t, "Masked", x, f, got, e, of(x.Shape, want...), api.OK)
}

func logSumIs(t *testing.T, x api.Tensor, f int, want ...int64) {
	t.Helper()
	got, e := soft.LogSum(x, f)
	is(t, "LogSum", x, f, got, e, of(x.Shape[:len(x.Shape)-1], want...), api.OK)
}

func allTell(t *testing.T, x api.Tensor, mask []int, f int, want api.Errno) {
	t.Helper()
	maskedTells(t, x, mask, f, want)
	got, e := soft.Softmax(x, f)
	is(t, "Softmax", x, f, got, e, api.Tensor{}, want)
	got, e = soft.LogSum(x, f)
	is(t, "LogSum", x, f, got, e, api.Tensor{}, want)
}

func maskedTells(t *testing.T, x api.Tensor, mask []int, f int, want api.Errno) {
	t.Helper()
	got, e := soft.Masked(x, mask, f)
	is(t, "Masked", x, f, got, e, api.Tensor{}, want)
}

func ones(x api.Tensor) []int { return slices.Repeat([]int{1}, len(x.Data)) }

// held holds what the calls tell of tensors against real numbers.
type held struct {
	s, halves scales
}

// heldBy takes as many bits as words that are put together at random ask for, or as others do.
func heldBy(f int) held { return heldTo(f, 320) }

func heldTo(f int, prec uint) held { return held{scalesOf(f, prec), scalesOf(f+1, prec)} }

func (h held) softmax(t *testing.T, x api.Tensor) {
	t.Helper()
	var want []int64
	for words := range slices.Chunk(x.Data, x.Shape[len(x.Shape)-1]) {
		want = append(want, sharesOf(t, h.s, words)...)
	}
	softmaxIs(t, x, h.s.f, want...)
	maskedIs(t, x, ones(x), h.s.f, want...)
}

func (h held) masked(t *testing.T, x api.Tensor, mask []int) {
	t.Helper()
	want, length := make([]int64, len(x.Data)), x.Shape[len(x.Shape)-1]
	for from := 0; from < len(want); from += length {
		var places []int
		var words []int64
		for n := from; n < from+length; n++ {
			if mask[n] != 0 {
				places, words = append(places, n), append(words, x.Data[n])
			}
		}
		for n, share := range sharesOf(t, h.s, words) {
			want[places[n]] = share
		}
	}
	maskedIs(t, x, mask, h.s.f, want...)
}

func (h held) logSum(t *testing.T, x api.Tensor) {
	t.Helper()
	want := api.Tensor{Shape: x.Shape[:len(x.Shape)-1]}
	for words := range slices.Chunk(x.Data, x.Shape[len(x.Shape)-1]) {
		v, e := logOf(t, h.s, h.halves, words)
		if e != api.OK {
			got, gotE := soft.LogSum(x, h.s.f)
			is(t, "LogSum", x, h.s.f, got, gotE, api.Tensor{}, e)
			return
		}
		want.Data = append(want.Data, v)
	}
	logSumIs(t, x, h.s.f, want.Data...)
}

// masks lets about one of many through, and one of each row in any case, by numbers of all kinds.
func masks(m *mixer.Mixer, x api.Tensor, many int) []int {
	kinds := []int{1, -1, 2, 7, -300, math.MaxInt, math.MinInt, 1 << 32}
	mask, length := make([]int, len(x.Data)), x.Shape[len(x.Shape)-1]
	for n := range mask {
		if m.Below(many) == 0 {
			mask[n] = kinds[m.Below(len(kinds))]
		}
	}
	for from := 0; from < len(mask); from += length {
		mask[from+m.Below(length)] = kinds[m.Below(len(kinds))]
	}
	return mask
}

func shapes() [][]int {
	return [][]int{{1}, {2}, {5}, {40}, {1, 1}, {4, 1}, {1, 4}, {3, 5}, {2, 3, 4}, {3, 1, 1}, {2, 3, 1, 2}, {1, 1, 1, 6}, {2, 2, 2, 3}}
}

// P13.1, P13.2

func TestAllShapesAndCounts(t *testing.T) {
	m := mixer.Mixer(131)
	for f := api.MinF; f <= api.MaxF; f++ {
		h := heldBy(f)
		for _, s := range shapes() {
			for _, bits := range []int{2, f - 3, f, f + 2, f + 5, 47} { // from words that are nearly equal to words that have nothing beside the greatest one
				x := sample.Tensor(&m, s, min(bits, 47))
				h.softmax(t, x)
				h.masked(t, x, masks(&m, x, 2))
				h.masked(t, x, masks(&m, x, 5))
				h.logSum(t, x)
			}
		}
	}
}

func TestLongRows(t *testing.T) {
	m := mixer.Mixer(132)
	for _, f := range []int{8, 13, 32} {
		h := heldBy(f)
		for _, s := range [][]int{{4096}, {2, 1000}} {
			for _, bits := range []int{3, f + 1, f + 3} {
				x := sample.Tensor(&m, s, bits)
				h.softmax(t, x)
				h.masked(t, x, masks(&m, x, 3))
				h.logSum(t, x)
			}
		}
	}
}

func TestAsManyWordsAsThereMayBe(t *testing.T) {
	m := mixer.Mixer(133)
	for _, s := range [][]int{{16, 4096}, {4096, 16}, {4096, 4, 4, 1}} {
		one := sample.Tensor(&m, []int{1, s[len(s)-1]}, 17)
		x := api.Tensor{Shape: s, Data: slices.Repeat(one.Data, api.MaxElems/len(one.Data))}
		part, _ := soft.Softmax(one, 16)
		softmaxIs(t, x, 16, slices.Repeat(part.Data, api.MaxElems/len(one.Data))...)
		sum, _ := soft.LogSum(one, 16)
		logSumIs(t, x, 16, slices.Repeat(sum.Data, api.MaxElems/len(one.Data))...)
	}
}

func TestExamples(t *testing.T) {
	softmaxIs(t, row(0, 0), 8, 128, 128)
	softmaxIs(t, row(256, 0), 8, 187, 69)
	logSumIs(t, row(0, 0), 8, 177)
}

func TestRowsStandAlongTheLastAxis(t *testing.T) {
	x := of([]int{2, 2}, 256, 0, 0, 0)
	softmaxIs(t, x, 8, 187, 69, 128, 128)
	maskedIs(t, x, []int{1, 1, 0, 1}, 8, 187, 69, 0, 256)
	logSumIs(t, x, 8, 336, 177)
	softmaxIs(t, of([]int{2, 1}, 256, 0), 8, 256, 256)
	softmaxIs(t, of([]int{1, 1, 1, 2}, 256, 0), 8, 187, 69)
}

func TestOneWord(t *testing.T) {
	for f := api.MinF; f <= api.MaxF; f++ {
		for _, a := range sample.Edges() {
			softmaxIs(t, row(a), f, 1<<f)
			maskedIs(t, row(a), []int{-3}, f, 1<<f)
			logSumIs(t, row(a), f, a)
			logSumIs(t, of([]int{3, 1}, a, -a, 0), f, a, -a, 0)
		}
	}
}

func TestEqualWords(t *testing.T) {
	for f := api.MinF; f <= api.MaxF; f++ {
		h := heldBy(f)
		for _, n := range []int{2, 3, 5, 8, 256, 511, 512, 513, 1000, 1024, 2048, 4095, 4096} {
			for _, a := range []int64{0, 1, -1 << f, -most, most - 40<<f} {
				x := sample.Filled([]int{n}, a)
				h.softmax(t, x)
				got, e := soft.LogSum(x, f)
				if want := a + int64(math.Round(math.Ldexp(math.Log(float64(n)), f))); e != api.OK || len(got.Data) != 1 || got.Data[0] != want {
					t.Errorf("LogSum of %d times %d, %d: %v, %v; want %d", n, a, f, got, e, want)
				}
			}
		}
	}
}

// So many equal words have a half of a word each: to even that is nothing. With one word less each has more than that; with others beside them less, however far those are.
func TestSharesOfAHalf(t *testing.T) {
	for f := api.MinF; 2<<f <= api.MaxDim; f++ {
		n := 2 << f
		for _, a := range []int64{0, most, -most + 1} {
			equal := slices.Repeat([]int64{a}, n)
			softmaxIs(t, row(equal...), f, make([]int64, n)...)
			softmaxIs(t, row(equal[1:]...), f, slices.Repeat([]int64{1}, n-1)...)
			if n == api.MaxDim {
				continue
			}
			for _, far := range []int64{-most, a - 1000<<f, a - 44<<f} {
				with := append(slices.Clone(equal), max(far, -most), -most)
				softmaxIs(t, row(with...), f, make([]int64, n+2)...)
			}
		}
	}
}

// Of words of which the masks let a part through, the half of a word is as many of those.
func TestMaskedSharesOfAHalf(t *testing.T) {
	x := sample.Filled([]int{1024}, 9)
	mask := slices.Concat(make([]int, 200), slices.Repeat([]int{5}, 512), make([]int, 312))
	maskedIs(t, x, mask, 8, make([]int64, 1024)...)
	mask[711] = 0
	maskedIs(t, x, mask, 8, slices.Concat(make([]int64, 200), slices.Repeat([]int64{1}, 511), make([]int64, 313))...)
}

// What is nearest to a share hangs on words far below, where shares are as close to a half as words can make them.
func TestSharesCloseToHalves(t *testing.T) {
	for _, f := range []int{8, 16, 32} {
		h := heldTo(f, 1400)
		for _, k := range []int64{1, 2, 1<<(f-1) - 1, 1 << (f - 1), 1<<f - 2, 1<<f - 1} {
			if f > 8 && k < 3 {
				continue // too many words
			}
			sum := h.s.whole(2 << f)
			sum.Quo(sum, h.s.whole(2*k+1))
			for _, many := range []int{3, 6, 12, 20} {
				ahead := 0
				if k < 3 {
					ahead = int(1<<f/(k+1)) * 2
				}
				words := near(h.s, sum, many+ahead)
				h.softmax(t, row(words...))
				firstShareIs(t, words, f, k+1)
				words[len(words)-1]++
				h.softmax(t, row(words...))
				firstShareIs(t, words, f, k)
			}
		}
	}
}

func firstShareIs(t *testing.T, words []int64, f int, want int64) {
	t.Helper()
	if got, e := soft.Softmax(row(words...), f); e != api.OK || got.Data[0] != want {
		t.Errorf("Softmax of %v, %d: %v, %v; want %d first", words, f, got.Data, e, want)
	}
}

func TestLogarithmsCloseToHalves(t *testing.T) {
	for _, f := range []int{8, 16, 32} {
		h := heldTo(f, 1400)
		for _, k := range []int64{0, 1, 2, 1 << (f - 1), 1<<f - 1, 1 << f, 2 << f} {
			sum := h.halves.power(2*k + 1)
			for _, many := range []int{8, 12, 20} {
				words := near(h.s, sum, many)
				h.logSum(t, row(words...))
				logSumIs(t, row(words...), f, k)
				words[len(words)-1]++
				h.logSum(t, row(words...))
				logSumIs(t, row(words...), f, k+1)
			}
		}
	}
}

func TestWordsFarApart(t *testing.T) {
	for f := api.MinF; f <= api.MaxF; f++ {
		one := int64(1) << f
		for _, far := range []int64{64 * one, 100 * one, 1000 * one, most, 2*most - 1} {
			a := min(far, most)
			low := max(a-far, -most)
			softmaxIs(t, row(a, low), f, one, 0)
			softmaxIs(t, row(low, a), f, 0, one)
			softmaxIs(t, row(low, a, low, a), f, 0, one/2, 0, one/2)
			logSumIs(t, row(low, a), f, a)
			logSumIs(t, row(a, low, low), f, a)
		}
		softmaxIs(t, row(most, -most), f, one, 0)
		softmaxIs(t, of([]int{2, 2}, -most, most, most, -most), f, 0, one, one, 0)
		logSumIs(t, of([]int{2, 2}, -most, most, most, -most), f, most, most)
	}
}

// A share of one word is a half word, or that much less than all, about where the difference is ln(2^(f+1)).
func TestWhereAShareIsNothing(t *testing.T) {
	for f := api.MinF; f <= api.MaxF; f++ {
		h, one := heldBy(f), int64(1)<<f
		at := int64(math.Ldexp(float64(f+1)*math.Ln2, f))
		for off := int64(-3); off <= 3; off++ {
			h.softmax(t, row(0, -at+off))
			h.softmax(t, row(-at+off, 0, -at+off))
			h.logSum(t, row(0, -at+off))
		}
		softmaxIs(t, row(0, -at-one/64-3), f, one, 0)
		softmaxIs(t, row(0, -at+one/64+3), f, one-1, 1)
	}
}

func TestMasks(t *testing.T) {
	x := row(256, 0, 0, most)
	for _, one := range []int{1, -1, 2, math.MaxInt, math.MinInt, 1 << 32, 256} {
		maskedIs(t, x, []int{one, one, 0, 0}, 8, 187, 69, 0, 0) // masked words that are equal to others, and that are greater than all
		maskedIs(t, x, []int{0, one, one, 0}, 8, 0, 128, 128, 0)
		maskedIs(t, x, []int{0, one, 0, 0}, 8, 0, 256, 0, 0)
		maskedIs(t, x, []int{1, -1, one, one}, 8, 0, 0, 0, 256)
		maskedIs(t, of([]int{2, 2}, most, 5, 0, 0), []int{0, one, 1, one}, 8, 0, 256, 128, 128)
	}
	maskedIs(t, row(-most, most), []int{1, 0}, 8, 256, 0)
}

func TestSumsThatAreNoWords(t *testing.T) {
	over := func(x api.Tensor, f int) {
		t.Helper()
		got, e := soft.LogSum(x, f)
		is(t, "LogSum", x, f, got, e, api.Tensor{}, api.ErrOver)
		if _, e = soft.Softmax(x, f); e != api.OK {
			t.Errorf("Softmax of %v, %d: %v", x, f, e)
		}
	}
	for f := api.MinF; f <= api.MaxF; f++ {
		above := int64(math.Round(math.Ldexp(math.Ln2, f)))
		over(row(most, most), f)
		over(row(most-above+1, most-above+1), f)
		logSumIs(t, row(most-above, most-above), f, most)
		over(of([]int{3, 2}, 0, 0, most, most, 0, 0), f)
		over(of([]int{3, 2}, 0, 0, 0, 0, most, most-1), f)
		over(of([]int{2, 2}, most, most, 0, 0), f)
		logSumIs(t, row(-most, -most), f, -most+above)
	}
	logSumIs(t, row(most, most-1600), 8, most) // the one is below a half
	over(row(most, most-1590), 8)
}

// Errors

func TestNoTensorsAreToldFirst(t *testing.T) {
	for _, bad := range sample.NoTensors() {
		allTell(t, bad, nil, 8, api.ErrForm)
		allTell(t, bad, make([]int, min(len(bad.Data), 1<<17)), 8, api.ErrForm)
		allTell(t, bad, []int{0}, 7, api.ErrForm)
	}
	allTell(t, api.Tensor{}, nil, 8, api.ErrForm)
}

func TestNoCountsAreToldFirst(t *testing.T) {
	for _, f := range []int{7, 33, 0, -1, -8, 64, 1 << 32, 1<<32 + 8, math.MinInt, math.MaxInt} {
		for _, x := range []api.Tensor{row(1, 2), of(nil, 3), of([]int{2, 1}, most, most), row(most, most)} {
			allTell(t, x, ones(x), f, api.ErrForm)
			maskedTells(t, x, nil, f, api.ErrForm)
			maskedTells(t, x, make([]int, len(x.Data)), f, api.ErrForm)
		}
	}
}

func TestRankNought(t *testing.T) {
	for _, s := range [][]int{nil, {}} {
		for _, mask := range [][]int{nil, {1}, {0}, {1, 1}} {
			allTell(t, of(s, most), mask, 8, api.ErrShape)
		}
	}
}

func TestMasksThatDoNotFit(t *testing.T) {
	for _, s := range shapes() {
		x := sample.Rising(s)
		n := len(x.Data)
		for _, mask := range [][]int{nil, {}, make([]int, n), make([]int, n-1), make([]int, n+1), ones(x)[1:], append(ones(x), 1), append(ones(x), ones(x)...), append(ones(x), 0), make([]int, 3*n)} {
			maskedTells(t, x, mask, 8, api.ErrShape)
		}
	}
}

func TestRowsThatHaveOnlyNoughts(t *testing.T) {
	for _, s := range shapes() {
		x, length := sample.Rising(s), s[len(s)-1]
		for from := 0; from < len(x.Data); from += length {
			mask := ones(x)
			clear(mask[from : from+length])
			maskedTells(t, x, mask, 8, api.ErrShape)
		}
	}
}

// P13.3

func TestAWordAddedToAWholeRow(t *testing.T) {
	m := mixer.Mixer(134)
	for f := api.MinF; f <= api.MaxF; f++ {
		x := sample.Tensor(&m, []int{3, 7}, min(f+2, 40))
		for _, c := range []int64{1, -1, 12345, -1 << f, 1 << 45, -1 << 45, most - 1<<41} {
			more := sample.Tensor(&m, x.Shape, 0)
			for n, a := range x.Data {
				more.Data[n] = a + c
			}
			want, _ := soft.Softmax(x, f)
			softmaxIs(t, more, f, want.Data...)
			mask := masks(&m, x, 2)
			want, _ = soft.Masked(x, mask, f)
			maskedIs(t, more, mask, f, want.Data...)
			sums, _ := soft.LogSum(x, f)
			for n := range sums.Data {
				sums.Data[n] += c
			}
			logSumIs(t, more, f, sums.Data...)
		}
	}
}

func TestSharesOfARow(t *testing.T) {
	m := mixer.Mixer(135)
	for f := api.MinF; f <= api.MaxF; f++ {
		for _, n := range []int{2, 3, 10, 300} {
			for _, bits := range []int{2, f, f + 4} {
				x := sample.Tensor(&m, []int{n}, bits)
				x.Data[n-1] = x.Data[0]
				got, e := soft.Softmax(x, f)
				if e != api.OK || len(got.Data) != n {
					t.Fatalf("%v: %v, %v", x, got, e)
				}
				order := make([]int, n)
				all := int64(0)
				for k := range order {
					order[k] = k
					all += got.Data[k]
				}
				if off := all - 1<<f; max(off, -off) > int64(n)/2 {
					t.Errorf("Softmax of %v, %d: %v are together %d", x, f, got, all)
				}
				slices.SortFunc(order, func(a, b int) int { return int(x.Data[a] - x.Data[b]) })
				for k := range n - 1 {
					low, high := order[k], order[k+1]
					if got.Data[low] > got.Data[high] || x.Data[low] == x.Data[high] && got.Data[low] != got.Data[high] {
						t.Errorf("Softmax of %v, %d: %v at %d and %d", x, f, got, low, high)
					}
				}
			}
		}
	}
}

func TestWordsInAnotherOrder(t *testing.T) {
	m := mixer.Mixer(136)
	for _, f := range []int{8, 20, 32} {
		x := sample.Tensor(&m, []int{50}, f+1)
		shares, _ := soft.Softmax(x, f)
		sum, _ := soft.LogSum(x, f)
		for range 20 {
			for n := range x.Data {
				k := m.Below(n + 1)
				x.Data[n], x.Data[k] = x.Data[k], x.Data[n]
				shares.Data[n], shares.Data[k] = shares.Data[k], shares.Data[n]
			}
			softmaxIs(t, x, f, shares.Data...)
			logSumIs(t, x, f, sum.Data...)
		}
	}
}

// Words that a mask leaves out are as good as none.
func TestMaskedWordsDoNotMatter(t *testing.T) {
	m := mixer.Mixer(137)
	for range 30 {
		x := sample.Tensor(&m, []int{4, 6}, 12)
		mask := masks(&m, x, 2)
		want, _ := soft.Masked(x, mask, 10)
		for n := range x.Data {
			if mask[n] == 0 {
				x.Data[n] = sample.Edges()[m.Below(len(sample.Edges()))]
			}
		}
		maskedIs(t, x, mask, 10, want.Data...)
	}
}

func TestEachRowStandsAlone(t *testing.T) {
	m := mixer.Mixer(138)
	x := sample.Tensor(&m, []int{3, 2, 5}, 11)
	shares, _ := soft.Softmax(x, 9)
	sums, _ := soft.LogSum(x, 9)
	for n := range sums.Data {
		part := row(x.Data[5*n : 5*n+5]...)
		softmaxIs(t, part, 9, shares.Data[5*n:5*n+5]...)
		logSumIs(t, part, 9, sums.Data[n])
	}
}

// R1, R2

func TestNothingHandedInIsChangedOrKept(t *testing.T) {
	m := mixer.Mixer(139)
	for _, s := range shapes() {
		words := sample.Words(&m, sample.Count(s), 10)
		mask := masks(&m, of(s, words...), 2)
		shares, _ := soft.Softmax(of(s, words...), 8)
		masked, _ := soft.Masked(of(s, words...), mask, 8)
		sums, _ := soft.LogSum(of(s, words...), 8)
		for range 2 { // the second time, after the answers of the first were spoiled
			x, lets := sample.Roomy(s, words), sample.RoomyInts(mask)
			a, _ := soft.Softmax(x, 8)
			b, _ := soft.Masked(x, lets, 8)
			c, _ := soft.LogSum(x, 8)
			if !sample.AsHandedIn(x, s, words) || !sample.IntsAsHandedIn(lets, mask) {
				t.Errorf("%v: handed in, now: %v, %v", s, x, lets)
			}
			sample.Spoil(x)
			clear(lets[:cap(lets)])
			for _, c := range []struct{ got, want api.Tensor }{{a, shares}, {b, masked}, {c, sums}} {
				if !sample.Same(c.got, c.want) {
					t.Errorf("%v: %v, want %v", s, c.got, c.want)
				}
				sample.Spoil(c.got)
			}
		}
	}
}

func TestNothingHandedInIsChangedBesideAnError(t *testing.T) {
	s, words := []int{2, 2}, []int64{most, most, 1, 2}
	x := sample.Roomy(s, words)
	for _, mask := range [][]int{{0, 0, 1, 1}, {1, 1, 0, 0}, {1, 1, 1}, nil} {
		lets := sample.RoomyInts(mask)
		maskedTells(t, x, lets, 8, api.ErrShape)
		if !sample.IntsAsHandedIn(lets, mask) {
			t.Errorf("%v, now %v", mask, lets)
		}
	}
	if got, e := soft.LogSum(x, 8); e != api.ErrOver || !sample.IsZero(got) {
		t.Errorf("%v, %v", got, e)
	}
	allTell(t, x, ones(x), 7, api.ErrForm)
	if !sample.AsHandedIn(x, s, words) {
		t.Error(x)
	}
}
