package norm_test

import (
	"math/big"
	"slices"
	"testing"

	"ratchet/api"
	"ratchet/mixer"
	"ratchet/norm"
	"ratchet/sample"
)

const most = sample.Most

var of, row = sample.Of, sample.Row

func tells(t *testing.T, x api.Tensor, eps int64, f int, want api.Tensor, wantE api.Errno) {
	t.Helper()
	got, e := norm.Norm(x, eps, f)
	if e != wantE || !sample.Same(got, want) || e != api.OK && !sample.IsZero(got) {
		t.Errorf("Norm of %v, %d, %d: %v, %v; want %v, %v", x, eps, f, got, e, want, wantE)
	}
}

func refused(t *testing.T, x api.Tensor, eps int64, f int, want api.Errno) {
	t.Helper()
	tells(t, x, eps, f, api.Tensor{}, want)
}

func normIs(t *testing.T, x api.Tensor, eps int64, f int, want ...int64) {
	t.Helper()
	tells(t, x, eps, f, of(x.Shape, want...), api.OK)
}

// told is what Norm tells of one row.
func told(t *testing.T, words []int64, eps int64, f int) []int64 {
	t.Helper()
	got, e := norm.Norm(row(words...), eps, f)
	if e != api.OK || len(got.Data) != len(words) {
		t.Fatalf("Norm of %v, %d, %d: %v, %v", words, eps, f, got, e)
	}
	return got.Data
}

func holds(t *testing.T, x api.Tensor, eps int64, f int) {
	t.Helper()
	var want []int64
	for words := range slices.Chunk(x.Data, x.Shape[len(x.Shape)-1]) {
		want = append(want, normed(words, eps, f)...)
	}
	normIs(t, x, eps, f, want...)
}

func shapes() [][]int {
	return [][]int{{1}, {2}, {5}, {40}, {1, 1}, {4, 1}, {1, 4}, {3, 5}, {2, 3, 4}, {3, 1, 1}, {2, 3, 1, 2}, {1, 1, 1, 6}, {2, 2, 2, 3}}
}

func epsilons(m *mixer.Mixer) []int64 {
	return []int64{1, 2, 1 << m.Below(47), 1 + int64(m.Next()>>(18+m.Below(45))), most - 1, most}
}

func opposite(words []int64) []int64 {
	var list []int64
	for _, a := range words {
		list = append(list, -a)
	}
	return list
}

// P14.1

func TestAllShapesAndCounts(t *testing.T) {
	m := mixer.Mixer(141)
	for f := api.MinF; f <= api.MaxF; f++ {
		for _, s := range shapes() {
			for _, bits := range []int{2, f - 3, f + 3, 40, 47} {
				for _, eps := range epsilons(&m) {
					holds(t, sample.Tensor(&m, s, bits), eps, f)
				}
			}
		}
	}
}

func TestExample(t *testing.T) {
	normIs(t, row(256, 512), 1, 8, -254, 254)
}

func TestByHand(t *testing.T) {
	normIs(t, row(0, 24), 1, 8, -154, 154) // two words that are 24 apart: over the root of 24^2 + 4 256 eps that is 3/5
	normIs(t, row(24, 0), 1, 8, 154, -154)
	normIs(t, row(1000, 952), 4, 8, 154, -154)
	normIs(t, row(-64, 64), 9, 8, -205, 205) // 4/5
	normIs(t, row(0, 3<<20), 1<<32, 10, -614, 614)
	normIs(t, row(0, 0, 0, 0, 30), 1, 8, -77, -77, -77, -77, 307) // 1 and 4 of 10/3
	normIs(t, row(0, 0, 1), 1, 8, -5, -5, 11)                     // a third less, and two more: 256 over the root of 2306 is 5.33
}

func TestRowsStandAlongTheLastAxis(t *testing.T) {
	normIs(t, of([]int{2, 2}, 0, 24, -64, 64), 9, 8, -62, 62, -205, 205)
	normIs(t, of([]int{2, 1}, 0, 24), 9, 8, 0, 0)
	normIs(t, of([]int{1, 2, 1, 2}, 7, 7, most, most-48), 4, 8, 0, 0, 154, -154)
	normIs(t, of([]int{2, 2, 1, 1}, 1, -2, 3, -4), 4, 8, 0, 0, 0, 0)
}

func TestLongRows(t *testing.T) {
	m := mixer.Mixer(142)
	for _, f := range []int{8, 19, 32} {
		for _, s := range [][]int{{4096}, {2, 1000}} {
			for _, bits := range []int{3, f, 47} {
				for _, eps := range []int64{1, 1 << f, most} {
					holds(t, sample.Tensor(&m, s, bits), eps, f)
				}
			}
		}
	}
}

func TestAsManyWordsAsThereMayBe(t *testing.T) {
	m := mixer.Mixer(143)
	holds(t, sample.Tensor(&m, []int{4096, 2, 2, 4}, 47), 1, 32)
	holds(t, sample.Signed(&m, []int{16, 4096}), most, 32)
	normIs(t, sample.Rising([]int{4096, 4, 4, 1}), 1, 8, make([]int64, api.MaxElems)...)
}

func TestOneWord(t *testing.T) {
	for f := api.MinF; f <= api.MaxF; f++ {
		for _, a := range sample.Edges() {
			normIs(t, row(a), 1, f, 0)
			normIs(t, of([]int{3, 1}, a, -a, 0), most, f, 0, 0, 0)
		}
	}
}

// Of words that are all equal but for one, that one is n - 1 times as far from the mean as the others.
func TestOneWordThatDiffersFromAllOthers(t *testing.T) {
	m := mixer.Mixer(144)
	for f := api.MinF; f <= api.MaxF; f++ {
		for _, n := range []int{2, 3, 10, 64, 4096} {
			for _, a := range [][2]int64{{0, 1}, {most, most - 1}, {-most, most}, {most, -most}, {5, 5 + 1<<f}, {0, most}} {
				words, at := slices.Repeat(a[:1], n), m.Below(n)
				words[at] = a[1]
				for _, eps := range []int64{1, most} {
					want := slices.Repeat([]int64{besideOne(n, -1, a[1]-a[0], eps, f)}, n)
					want[at] = besideOne(n, int64(n)-1, a[1]-a[0], eps, f)
					normIs(t, row(words...), eps, f, want...)
				}
			}
		}
	}
}

// besideOne is what is told of a word that is part d / n off the mean, where one of n words is d more than the others: the squares' mean is (n - 1) d^2 / n^2.
func besideOne(n int, part, d, eps int64, f int) int64 {
	over := squareOf(new(big.Rat).Mul(number(d, f), whole(part<<f)))
	below := new(big.Rat).Mul(squareOf(number(d, f)), whole(int64(n)-1))
	below.Add(below, new(big.Rat).Mul(number(eps, f), squareOf(whole(int64(n)))))
	return nearest(big.NewInt(part).Sign()*big.NewInt(d).Sign(), over.Quo(over, below))
}

func TestTheGreatestAndTheLeastWord(t *testing.T) {
	for f := api.MinF; f <= api.MaxF; f++ {
		for _, eps := range []int64{1, 1 << f, most} {
			holds(t, row(most, -most), eps, f)
			holds(t, row(0, most, 0, -most, 0), eps, f)
			holds(t, row(-most, -most, most), eps, f)
		}
		normIs(t, row(most, -most), 1, f, 1<<f, -1<<f)
	}
	normIs(t, row(most, -most), most, 32, 1<<32-1<<16+1, -1<<32+1<<16-1) // 1.49996 is what the second power of eps over the squares has more
}

func TestRowsOfTheGreatestWordsInSize(t *testing.T) {
	m := mixer.Mixer(145)
	for _, f := range []int{8, 21, 32} {
		for _, n := range []int{2, 3, 100, 4095, 4096} {
			for _, eps := range []int64{1, most} {
				holds(t, sample.Signed(&m, []int{n}), eps, f)
				half := slices.Concat(slices.Repeat([]int64{most}, n/2), slices.Repeat([]int64{-most}, n-n/2))
				holds(t, row(half...), eps, f)
				holds(t, row(opposite(half)...), eps, f)
			}
		}
	}
}

func TestWordsNextToOneAnother(t *testing.T) {
	for f := api.MinF; f <= api.MaxF; f++ {
		for _, a := range []int64{-most, -1 << 40, -1, 0, 1, 77, most - 4} {
			for _, eps := range []int64{1, 3, 1 << f, most} {
				holds(t, row(a, a+1), eps, f)
				holds(t, row(a+1, a, a), eps, f)
				holds(t, row(a, a+3, a+1, a+2, a+4), eps, f)
			}
		}
	}
	normIs(t, row(most-1, most), 1, 8, -8, 8) // 256 over the root of 1025: 7.996
	normIs(t, row(-most+1, -most), 1, 32, 32768, -32768)
}

func TestHalvesGoToTheEvenOne(t *testing.T) {
	for _, c := range []struct{ d, eps, above, at, below int64 }{
		{32, 1<<18 - 1, 1, 0, 0}, {96, 1<<18 - 9, 2, 2, 1}, {160, 1<<18 - 25, 3, 2, 2}, {224, 1<<18 - 49, 4, 4, 3}, {32 * 509, 1<<18 - 509*509, 255, 254, 254}, {32 * 511, 1<<18 - 511*511, 256, 256, 255}, {64 * 511, 4<<18 - 4*511*511, 256, 256, 255},
	} {
		normIs(t, row(c.d, 0), c.eps-1, 8, c.above, -c.above)
		normIs(t, row(c.d, 0), c.eps, 8, c.at, -c.at)
		normIs(t, row(c.d, 0), c.eps+1, 8, c.below, -c.below)
	}
}

// Rows whose first word is told by a half, and rows that differ from those as little as words can: of the greatest squares that is one part in 2^90.
func TestHalvesOfAllCounts(t *testing.T) {
	for f := api.MinF; f <= api.MaxF; f++ {
		one, rows := int64(1)<<f, 0
		for _, k := range []int64{0, 1, 2, 3, one/2 - 1, one - 1, one, one + 1, 2 * one, 2*one + 1} {
			for _, scale := range []int64{1, 3, 1 << (43 - f), 1<<(44-f) - 1} {
				for _, eps := range []int64{1, 2, one + 5, 1 << 40, most} {
					if words, ok := tied(t, f, k, scale, eps); ok {
						rows++
						aboutHalf(t, words, eps, f, k)
					}
				}
			}
		}
		if rows < 100 {
			t.Errorf("%d: only %d rows", f, rows)
		}
	}
}

func aboutHalf(t *testing.T, words []int64, eps int64, f int, k int64) {
	t.Helper()
	least := leastOf(words)
	for _, c := range []struct {
		words     []int64
		eps, want int64
	}{
		{words, eps, k + k%2}, {opened(words, least, 1), eps, k}, {words, eps + 1, k}, {opened(words, least, -1), eps, k + 1}, {words, eps - 1, k + 1},
	} {
		if c.eps == 0 || c.eps > most {
			continue
		}
		if got := told(t, c.words, c.eps, f); got[0] != c.want || got[1] != -c.want {
			t.Errorf("Norm of %v, %d, %d: %v; want %d first", c.words, c.eps, f, got, c.want)
		}
		holds(t, row(c.words...), c.eps, f)
	}
}

// Errors

func noEpsilons() []int64 {
	return append(sample.NoWords(), 0, -1, -256, -1<<32, -most)
}

func TestNoTensorsAreRefused(t *testing.T) {
	for _, bad := range append(sample.NoTensors(), api.Tensor{}, of([]int{2}, 1), of([]int{2}, 1, 2, 3), of(nil, most+1), of([]int{}, 1, 2)) {
		refused(t, bad, 1, 8, api.ErrForm)
		refused(t, bad, 0, 8, api.ErrForm)
		refused(t, bad, 1, 33, api.ErrForm)
		refused(t, bad, -1, 7, api.ErrForm)
	}
}

func TestNoCountsAreRefused(t *testing.T) {
	for _, f := range sample.NoCounts() {
		for _, x := range []api.Tensor{row(1, 2), of([]int{2, 1}, most, most), of(nil, 3), of([]int{}, 0)} {
			refused(t, x, 1, f, api.ErrForm)
			refused(t, x, most, f, api.ErrForm)
			refused(t, x, 0, f, api.ErrForm)
		}
	}
}

func TestNoEpsilonsAreRefused(t *testing.T) {
	for _, eps := range noEpsilons() {
		for _, x := range []api.Tensor{row(1, 2), row(5), of([]int{1, 1, 1, 3}, 0, 0, 0), of(nil, 3), of([]int{}, 0)} {
			refused(t, x, eps, 8, api.ErrForm)
			refused(t, x, eps, 32, api.ErrForm)
			refused(t, x, eps, 0, api.ErrForm)
		}
	}
}

func TestRankNoughtIsRefused(t *testing.T) {
	for _, s := range [][]int{nil, {}} {
		for _, a := range []int64{0, 1, most, -most} {
			refused(t, of(s, a), 1, 8, api.ErrShape)
			refused(t, of(s, a), most, 32, api.ErrShape)
		}
	}
}

// P14.2

func TestAWordAddedToAWholeRow(t *testing.T) {
	m := mixer.Mixer(146)
	for f := api.MinF; f <= api.MaxF; f++ {
		for _, n := range []int{1, 2, 7, 300} {
			words := sample.Words(&m, n, 45)
			for _, eps := range epsilons(&m) {
				want := told(t, words, eps, f)
				for _, c := range []int64{1, -1, 12345, -1 << f, 1 << 46, -1 << 46, most - 1<<45 + 1} {
					var more []int64
					for _, a := range words {
						more = append(more, a+c)
					}
					normIs(t, row(more...), eps, f, want...)
				}
			}
		}
	}
}

func TestEqualWords(t *testing.T) {
	for f := api.MinF; f <= api.MaxF; f++ {
		for _, s := range [][]int{{2}, {3}, {400}, {5, 7}, {2, 1, 3, 4}} {
			for _, a := range sample.Edges() {
				x := sample.Filled(s, a)
				normIs(t, x, 1, f, make([]int64, len(x.Data))...)
				normIs(t, x, most, f, make([]int64, len(x.Data))...)
			}
		}
		normIs(t, sample.Filled([]int{4096}, -most), 1, f, make([]int64, 4096)...)
	}
}

func TestNegatives(t *testing.T) {
	m := mixer.Mixer(147)
	for f := api.MinF; f <= api.MaxF; f++ {
		for _, n := range []int{2, 3, 8, 1000} {
			for _, bits := range []int{2, f, 47} {
				for _, eps := range epsilons(&m) {
					words := sample.Words(&m, n, bits)
					normIs(t, row(opposite(words)...), eps, f, opposite(told(t, words, eps, f))...)
				}
			}
		}
	}
}

func TestWordsInAnotherOrder(t *testing.T) {
	m := mixer.Mixer(148)
	for f := api.MinF; f <= api.MaxF; f++ {
		words := sample.Words(&m, 60, 47)
		answers := told(t, words, 1, f)
		for range 10 {
			for n := range words {
				k := m.Below(n + 1)
				words[n], words[k] = words[k], words[n]
				answers[n], answers[k] = answers[k], answers[n]
			}
			normIs(t, row(words...), 1, f, answers...)
		}
	}
}

func TestEachRowStandsAlone(t *testing.T) {
	m := mixer.Mixer(149)
	x := sample.Tensor(&m, []int{3, 2, 5}, 14)
	got, _ := norm.Norm(x, 100, 12)
	for from := 0; from < len(x.Data); from += 5 {
		normIs(t, row(x.Data[from:from+5]...), 100, 12, got.Data[from:from+5]...)
	}
}

func bigSquare(n int64) *big.Int { return new(big.Int).Mul(big.NewInt(n), big.NewInt(n)) }

// extremes are rows as far apart as words can be, and others.
func extremes(m *mixer.Mixer, n int) [][]int64 {
	one, last := slices.Repeat([]int64{-most}, n), slices.Repeat([]int64{most}, n)
	one[m.Below(n)], last[n-1] = most, -most
	return [][]int64{one, last, sample.Signed(m, []int{n}).Data, sample.Words(m, n, 47), sample.Words(m, n, 10)}
}

// A word's answer is at most the root of n - 1, times 2^f, and a half; one word that is far from all others comes next to that.
func TestNoSquareIsAbove(t *testing.T) {
	m := mixer.Mixer(150)
	for f := api.MinF; f <= api.MaxF; f++ {
		for _, n := range []int{2, 3, 5, 17, 100, 4096} {
			limit := new(big.Int).Lsh(big.NewInt(int64(n)-1), uint(2*f+2))
			for _, words := range extremes(&m, n) {
				for _, v := range told(t, words, 1, f) {
					if size := max(v, -v); size > 0 && bigSquare(2*size-1).Cmp(limit) > 0 {
						t.Errorf("Norm of %v, %d: %d", words, f, v)
					}
				}
			}
			far := slices.Max(told(t, extremes(&m, n)[0], 1, f))
			if bigSquare(2*far+1).Cmp(limit) < 0 {
				t.Errorf("of %d words, %d: %d at most", n, f, far)
			}
		}
	}
}

// Ahead of their rounding all answers are together 0, and their squares n times 4^f, or less by what eps is. Rounding moves the root of the squares by no more than the root of n quarters.
func TestAllAnswersTogether(t *testing.T) {
	m := mixer.Mixer(151)
	for f := api.MinF; f <= api.MaxF; f++ {
		for _, n := range []int{2, 3, 5, 17, 100, 4096} {
			for at, words := range extremes(&m, n) {
				for _, eps := range []int64{1, 1 << f, most} {
					sum, squares := int64(0), new(big.Int)
					for _, v := range told(t, words, eps, f) {
						sum += v
						squares.Add(squares, bigSquare(v))
					}
					squares.Lsh(squares, 2)
					above := new(big.Int).Mul(bigSquare(2<<f+1), big.NewInt(int64(n)))
					below := new(big.Int).Mul(bigSquare(2<<f-3), big.NewInt(int64(n)))
					spread := at < 3 && slices.Max(words) != slices.Min(words) && eps == 1
					if 2*max(sum, -sum) > int64(n) || squares.Cmp(above) > 0 || spread && squares.Cmp(below) < 0 {
						t.Errorf("Norm of %v, %d, %d: together %d, four squares %v", words, eps, f, sum, squares)
					}
				}
			}
		}
	}
}

// R1, R2

func TestNothingHandedInIsChangedOrKept(t *testing.T) {
	m := mixer.Mixer(152)
	for _, s := range shapes() {
		words := sample.Words(&m, sample.Count(s), 10)
		want, _ := norm.Norm(of(s, words...), 1, 8)
		for range 2 { // the second time, after the answer of the first was spoiled
			x := sample.Roomy(s, words)
			got, _ := norm.Norm(x, 1, 8)
			if !sample.AsHandedIn(x, s, words) {
				t.Errorf("%v: handed in, now: %v", s, x)
			}
			sample.Spoil(x)
			if !sample.Same(got, want) {
				t.Errorf("%v: %v, want %v", s, got, want)
			}
			sample.Spoil(got)
		}
	}
}

func TestNothingHandedInIsChangedBesideAnError(t *testing.T) {
	s, words := []int{2, 2}, []int64{most, -most, 1, 2}
	x := sample.Roomy(s, words)
	refused(t, x, 0, 8, api.ErrForm)
	refused(t, x, 1, 7, api.ErrForm)
	refused(t, of(x.Shape, words[:3]...), 1, 8, api.ErrForm)
	refused(t, of(nil, x.Data...), 1, 8, api.ErrForm)
	if !sample.AsHandedIn(x, s, words) {
		t.Error(x)
	}
}
