package loss_test

import (
	"math"
	"slices"
	"testing"

	"ratchet/api"
	"ratchet/curve"
	"ratchet/loss"
	"ratchet/mixer"
	"ratchet/sample"
	"ratchet/soft"
)

func xentIs(t *testing.T, x api.Tensor, labels []int, f int, want int64) {
	t.Helper()
	got, e := loss.Xent(x, labels, f)
	if e != api.OK || !sample.Same(got, of(nil, want)) {
		t.Errorf("Xent of %v, %v, %d: %v, %v; want %d", x, labels, f, got, e, want)
	}
}

func xentTells(t *testing.T, x api.Tensor, labels []int, f int, want api.Errno) {
	t.Helper()
	if got, e := loss.Xent(x, labels, f); e != want || !sample.IsZero(got) {
		t.Errorf("Xent of %v, %v, %d: %v, %v; want %v", x, labels, f, got, e, want)
	}
}

// xentHolds holds what Xent tells against real numbers.
func xentHolds(t *testing.T, p powers, x api.Tensor, labels []int) {
	t.Helper()
	want, e := knownOf(p, x, labels).nearest(t)
	if e != api.OK {
		xentTells(t, x, labels, p.f, e)
		return
	}
	xentIs(t, x, labels, p.f, want)
}

func labelsOf(m *mixer.Mixer, x api.Tensor) []int {
	list := make([]int, x.Shape[0])
	for n := range list {
		list[n] = m.Below(x.Shape[1])
	}
	return list
}

func tables() [][]int {
	return [][]int{{1, 1}, {1, 2}, {2, 1}, {2, 2}, {1, 3}, {3, 5}, {5, 3}, {4, 4}, {7, 2}, {40, 3}, {1, 50}, {30, 1}}
}

// P16.1

func TestXentOfAllTablesAndCounts(t *testing.T) {
	m := mixer.Mixer(161)
	for f := api.MinF; f <= api.MaxF; f++ {
		p := powersOf(f, 320)
		for _, s := range tables() {
			for _, bits := range []int{1, f - 3, f, f + 2, f + 5, 47} { // from words that are nearly equal to words that have nothing beside the greatest one
				x := sample.Tensor(&m, s, min(bits, 47))
				xentHolds(t, p, x, labelsOf(&m, x))
			}
		}
	}
}

func TestXentOfManyWords(t *testing.T) {
	m := mixer.Mixer(162)
	for _, f := range []int{8, 19, 32} {
		p := powersOf(f, 320)
		for _, s := range [][]int{{2, 4096}, {4096, 2}, {1000, 7}, {30, 300}} {
			for _, bits := range []int{3, f + 1, f + 4} {
				x := sample.Tensor(&m, s, bits)
				xentHolds(t, p, x, labelsOf(&m, x))
			}
		}
	}
}

func TestXentOfAsManyWordsAsThereMayBe(t *testing.T) {
	m := mixer.Mixer(163)
	for _, s := range [][]int{{16, 4096}, {4096, 16}, {256, 256}} {
		one := sample.Tensor(&m, []int{1, s[1]}, 18)
		label := m.Below(s[1])
		want, e := loss.Xent(one, []int{label}, 16)
		if e != api.OK {
			t.Fatal(one, e)
		}
		x := of(s, slices.Repeat(one.Data, s[0])...)
		xentIs(t, x, slices.Repeat([]int{label}, s[0]), 16, want.Data[0])
	}
}

func TestXentExamples(t *testing.T) {
	xentIs(t, of([]int{1, 2}, 0, 0), []int{0}, 8, 177)
	xentIs(t, of([]int{1, 2}, 0, 0), []int{1}, 8, 177)
	xentIs(t, of([]int{1, 2}, 256, 0), []int{0}, 8, 80)               // 336 less 256
	xentIs(t, of([]int{1, 2}, 256, 0), []int{1}, 8, 336)              // ln(1 + e): 336.2
	xentIs(t, of([]int{2, 2}, 256, 0, 0, 0), []int{1, 0}, 8, 257)     // of 336.19 and 177.45: 256.82
	xentIs(t, of([]int{2, 2}, 0, 0, 256, 0), []int{0, 0}, 8, 129)     // of 177.45 and 80.19: 128.82
	xentIs(t, of([]int{2, 3}, 0, 0, 0, 0, 0, 0), []int{2, 1}, 8, 281) // ln 3
}

// Each row's ln is no word: the mean is rounded, not they.
func TestXentRoundsTheMeanAlone(t *testing.T) {
	xentIs(t, of([]int{2, 2}, 0, -1520, 0, -1600), []int{0, 0}, 8, 1) // 0.675 and 0.494, of which each by itself is 1 and 0
	xentIs(t, of([]int{3, 2}, 0, -1600, 0, -1600, 0, -1500), []int{0, 0, 0}, 8, 1)
	xentIs(t, of([]int{3, 2}, 0, -1590, 0, -1590, 0, -1700), []int{0, 0, 0}, 8, 0)
}

func TestXentOfOneColumn(t *testing.T) {
	for f := api.MinF; f <= api.MaxF; f++ {
		for _, a := range sample.Edges() {
			xentIs(t, of([]int{1, 1}, a), []int{0}, f, 0)
			xentIs(t, sample.Filled([]int{30, 1}, a), make([]int, 30), f, 0)
		}
		edges := sample.Edges()
		xentIs(t, of([]int{len(edges), 1}, edges...), make([]int, len(edges)), f, 0)
		xentIs(t, sample.Rising([]int{4096, 1}), make([]int, 4096), f, 0)
	}
}

func TestXentOfEqualWords(t *testing.T) {
	for f := api.MinF; f <= api.MaxF; f++ {
		for _, s := range [][]int{{1, 2}, {2, 2}, {3, 3}, {5, 8}, {1, 4096}, {700, 2}} {
			for _, a := range []int64{0, 1, -1 << f, most, -most} {
				want := int64(math.Round(math.Ldexp(math.Log(float64(s[1])), f)))
				xentIs(t, sample.Filled(s, a), slices.Repeat([]int{s[1] - 1}, s[0]), f, want)
			}
		}
	}
}

// far is rows in which all words but the greatest one have as good as nothing: the labels' words are together so much below the greatest ones.
func far(rows, columns int, below int64) (api.Tensor, []int) {
	x, labels := sample.Filled([]int{rows, columns}, -most), make([]int, rows)
	for n := range rows {
		part := below / int64(rows-n)
		below -= part
		labels[n] = n % (columns - 1)
		x.Data[(n+1)*columns-1] = 1 << 46
		x.Data[n*columns+labels[n]] = 1<<46 - part
	}
	return x, labels
}

func xentOfFarIs(t *testing.T, rows, columns int, below int64, f int, want int64) {
	t.Helper()
	x, labels := far(rows, columns, below)
	xentIs(t, x, labels, f, want)
}

// A mean that seems to lie just between two words is above it, whether the one below is even or odd.
func TestXentOfWhatSeemsToBeAHalf(t *testing.T) {
	for f := api.MinF; f <= api.MaxF; f++ {
		for _, rows := range []int{2, 4, 6, 10, 100} {
			for _, k := range []int64{45 << f, 45<<f + 1, 1 << 44, 1<<44 + 1, most - 2, most - 1} {
				half := int64(rows)*k + int64(rows)/2
				for _, columns := range []int{2, 3} {
					xentOfFarIs(t, rows, columns, half-1, f, k)
					xentOfFarIs(t, rows, columns, half, f, k+1)
					xentOfFarIs(t, rows, columns, half+1, f, k+1)
				}
			}
		}
	}
	xentOfFarIs(t, 4096, 16, 4096<<40+2047, 32, 1<<40)
	xentOfFarIs(t, 4096, 16, 4096<<40+2048, 32, 1<<40+1)
}

func TestXentOfThirds(t *testing.T) {
	for f := api.MinF; f <= api.MaxF; f++ {
		for _, k := range []int64{1 << 44, 1<<44 + 1} {
			xentOfFarIs(t, 3, 2, 3*k, f, k)
			xentOfFarIs(t, 3, 2, 3*k+1, f, k)
			xentOfFarIs(t, 3, 2, 3*k+2, f, k+1)
		}
	}
}

// Where the labels' words are the greatest ones there is nothing, but for what is below a half.
func TestXentOfFarGreatestWords(t *testing.T) {
	for f := api.MinF; f <= api.MaxF; f++ {
		for _, low := range []int64{-most, -most + 1, most - 45<<f} {
			xentIs(t, of([]int{2, 3}, low, most, low, most, low, low), []int{1, 0}, f, 0)
			xentIs(t, of([]int{1, 2}, most, low), []int{0}, f, 0)
		}
		at := int64(math.Ldexp(float64(f+1)*math.Ln2, f)) // where one word has a half of a word beside the greatest one
		p := powersOf(f, 320)
		for off := int64(-3); off <= 3; off++ {
			xentHolds(t, p, of([]int{1, 2}, 0, -at+off), []int{0})
			xentHolds(t, p, of([]int{2, 2}, 0, -at+off, 0, -at-off), []int{0, 0})
		}
	}
}

// What is nearest hangs on words far below, where the whole product of the rows' sums is as close to a half as words can make it: of one row by itself that tells nothing.
func TestXentCloseToHalves(t *testing.T) {
	m := mixer.Mixer(164)
	for _, f := range []int{8, 16, 32} {
		p := powersOf(f, 1400)
		for _, many := range []int{3, 6, 12, 20} {
			for _, rows := range []int{1, 2, 3} {
				x := sample.Tensor(&m, []int{rows - 1, many}, f-1)
				labels := labelsOf(&m, x)
				k := knownOf(p, x, labels)
				k.rows++
				ahead, _ := k.nearest(t)
				for _, more := range []int64{1, 2, 5, 1 << (f - 2)} {
					word := ahead + more
					sum := p.real(1)
					sum.Quo(sum, p.below(k.rows*(2*word+1)-2*k.lack))
					words := p.near(sum.Quo(sum, k.product), many)
					closeToHalf(t, p, append(slices.Clone(x.Data), words...), append(slices.Clone(labels), 0), word)
				}
			}
		}
	}
}

// closeToHalf is of rows that are just below a half behind word, and, with one word more, above it.
func closeToHalf(t *testing.T, p powers, words []int64, labels []int, word int64) {
	t.Helper()
	x := of([]int{len(labels), len(words) / len(labels)}, words...)
	xentHolds(t, p, x, labels)
	xentIs(t, x, labels, p.f, word)
	words[len(words)-1]++
	xentHolds(t, p, x, labels)
	xentIs(t, x, labels, p.f, word+1)
}

func TestXentOfMeansThatAreNoWords(t *testing.T) {
	for f := api.MinF; f <= api.MaxF; f++ {
		one, two := []int{1}, []int{1, 1}
		xentIs(t, of([]int{1, 2}, most, 0), one, f, most)
		xentTells(t, of([]int{1, 2}, most, -1), one, f, api.ErrOver)
		xentTells(t, of([]int{1, 2}, most, -most), one, f, api.ErrOver)
		xentIs(t, of([]int{2, 2}, most, -most, 5, 5-1<<46), []int{1, 0}, f, most) // one row alone would be no word
		xentIs(t, of([]int{2, 2}, most, 1, most, 0), two, f, most)
		xentTells(t, of([]int{2, 2}, most, 0, most, -1), two, f, api.ErrOver) // just between, as it seems
		xentTells(t, of([]int{3, 2}, most, -most, most, -most, most, -most), []int{1, 1, 1}, f, api.ErrOver)
		all := of([]int{4096, 2}, slices.Repeat([]int64{-most, most}, 4096)...)
		xentTells(t, all, make([]int, 4096), f, api.ErrOver)
		xentIs(t, all, slices.Repeat([]int{0, 1}, 2048), f, most)
		xentIs(t, all, slices.Repeat([]int{1}, 4096), f, 0)
	}
}

// Errors

func TestXentTellsOfNoTensorsFirst(t *testing.T) {
	for _, bad := range append(sample.NoTensors(), api.Tensor{}) {
		xentTells(t, bad, nil, 8, api.ErrForm)
		xentTells(t, bad, []int{0}, 8, api.ErrForm)
		xentTells(t, bad, []int{-1, 4}, 7, api.ErrForm)
	}
}

func TestXentTellsOfNoCountsFirst(t *testing.T) {
	for _, f := range sample.NoCounts() {
		xentTells(t, of([]int{1, 2}, 1, 2), []int{0}, f, api.ErrForm)
		xentTells(t, of([]int{1, 2}, 1, 2), []int{2}, f, api.ErrForm)
		xentTells(t, of([]int{1, 2}, most, -most), []int{1}, f, api.ErrForm)
		xentTells(t, row(1, 2), nil, f, api.ErrForm)
	}
}

func TestXentOfOtherRanks(t *testing.T) {
	for _, s := range [][]int{nil, {}, {1}, {2}, {1, 1, 1}, {2, 1, 1}, {1, 2, 1}, {2, 2, 2}, {1, 1, 1, 1}, {2, 2, 1, 1}} {
		for _, labels := range [][]int{nil, {}, {0}, {0, 0}, {0, 0, 0, 0}} {
			xentTells(t, sample.Filled(s, most), labels, 8, api.ErrShape)
		}
	}
}

func TestXentOfOtherCountsOfLabels(t *testing.T) {
	for _, s := range tables() {
		x := sample.Rising(s)
		for _, many := range []int{0, s[0] - 1, s[0] + 1, 2 * s[0], s[0] * s[1], s[1]} {
			if many != s[0] {
				xentTells(t, x, make([]int, many), 8, api.ErrShape)
			}
		}
		xentTells(t, x, nil, 8, api.ErrShape)
	}
}

func TestXentOfNoLabels(t *testing.T) {
	for _, s := range tables() {
		x := sample.Rising(s)
		for n := range s[0] {
			for _, bad := range []int{-1, -2, s[1], s[1] + 1, 1 << 32, math.MinInt, math.MaxInt} {
				labels := make([]int, s[0])
				labels[n] = bad
				xentTells(t, x, labels, 8, api.ErrShape)
			}
		}
	}
	xentTells(t, of([]int{2, 2}, most, -most, most, -most), []int{1, 2}, 8, api.ErrShape) // ahead of a mean that is no word
}

// P16.3, and what P16.1 says of it

func TestXentIsNotBelowNought(t *testing.T) {
	m := mixer.Mixer(165)
	for f := api.MinF; f <= api.MaxF; f++ {
		for range 100 {
			x := sample.Tensor(&m, []int{1 + m.Below(3), 1 + m.Below(4)}, 46)
			if got, e := loss.Xent(x, labelsOf(&m, x), f); e != api.OK || got.Data[0] < 0 {
				t.Errorf("%v, %d: %v, %v", x, f, got, e)
			}
		}
	}
}

func TestXentOfOneRowIsItsLogSumLessTheLabelsWord(t *testing.T) {
	m := mixer.Mixer(166)
	for f := api.MinF; f <= api.MaxF; f++ {
		for _, bits := range []int{3, f, f + 3, 45} {
			x := sample.Tensor(&m, []int{1, 6}, bits)
			sum, _ := soft.LogSum(x, f)
			for label, a := range x.Data {
				xentIs(t, x, []int{label}, f, sum.Data[0]-a)
			}
		}
	}
}

func TestXentOfTwoWordsIsSoftplus(t *testing.T) {
	m := mixer.Mixer(167)
	for f := api.MinF; f <= api.MaxF; f++ {
		for _, bits := range []int{3, f, f + 3, 45} {
			x := sample.Tensor(&m, []int{1, 2}, bits)
			a, _ := curve.Softplus(x.Data[1]-x.Data[0], f)
			xentIs(t, x, []int{0}, f, a)
			b, _ := curve.Softplus(x.Data[0]-x.Data[1], f)
			xentIs(t, x, []int{1}, f, b)
		}
	}
}

func TestXentInAnotherOrder(t *testing.T) {
	m := mixer.Mixer(168)
	for _, f := range []int{8, 20, 32} {
		x := sample.Tensor(&m, []int{9, 4}, f+1)
		labels := labelsOf(&m, x)
		want, _ := loss.Xent(x, labels, f)
		for range 20 {
			n, other := m.Below(9), m.Below(9)
			for k := range 4 {
				x.Data[4*n+k], x.Data[4*other+k] = x.Data[4*other+k], x.Data[4*n+k]
			}
			labels[n], labels[other] = labels[other], labels[n]
			k := m.Below(4) // and the label's word with another one of its row
			x.Data[4*n+k], x.Data[4*n+labels[n]] = x.Data[4*n+labels[n]], x.Data[4*n+k]
			labels[n] = k
			xentIs(t, x, labels, f, want.Data[0])
		}
	}
}

func TestXentWithAWordAddedToAWholeRow(t *testing.T) {
	m := mixer.Mixer(169)
	for f := api.MinF; f <= api.MaxF; f++ {
		x := sample.Tensor(&m, []int{3, 7}, min(f+2, 40))
		labels := labelsOf(&m, x)
		want, _ := loss.Xent(x, labels, f)
		for n, c := range []int64{1, -1, 12345, -1 << f, 1 << 45, -1 << 45, most - 1<<41} {
			more := of(x.Shape, slices.Clone(x.Data)...)
			for k := range 7 {
				more.Data[n%3*7+k] += c
			}
			xentIs(t, more, labels, f, want.Data[0])
		}
	}
}

// R1, R2

func TestXentNeitherChangesNorKeeps(t *testing.T) {
	m := mixer.Mixer(170)
	for _, s := range tables() {
		words := sample.Words(&m, sample.Count(s), 11)
		labels := labelsOf(&m, of(s, words...))
		want, _ := loss.Xent(of(s, words...), labels, 8)
		for range 2 { // the second time, after the answer of the first was spoiled
			x, roomy := sample.Roomy(s, words), sample.RoomyInts(labels)
			got, _ := loss.Xent(x, roomy, 8)
			if !sample.AsHandedIn(x, s, words) || !sample.IntsAsHandedIn(roomy, labels) {
				t.Errorf("%v: handed in, now: %v, %v", s, x, roomy)
			}
			sample.Spoil(x)
			clear(roomy[:cap(roomy)])
			if !sample.Same(got, want) {
				t.Errorf("%v: %v, want %v", s, got, want)
			}
			sample.Spoil(got)
		}
	}
}

func TestXentChangesNothingBesideAnError(t *testing.T) {
	s, words := []int{2, 2}, []int64{most, -most, most, -most}
	x := sample.Roomy(s, words)
	for _, c := range []struct {
		labels []int
		f      int
		want   api.Errno
	}{{[]int{1, 1}, 8, api.ErrOver}, {[]int{1, 2}, 8, api.ErrShape}, {[]int{1}, 8, api.ErrShape}, {[]int{1, 1}, 7, api.ErrForm}} {
		roomy := sample.RoomyInts(c.labels)
		xentTells(t, x, roomy, c.f, c.want)
		if !sample.AsHandedIn(x, s, words) || !sample.IntsAsHandedIn(roomy, c.labels) {
			t.Errorf("%v, %v", x, roomy)
		}
	}
}
