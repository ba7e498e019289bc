package loss_test

import (
	"math/big"
	"slices"
	"testing"

	"ratchet/api"
	"ratchet/loss"
	"ratchet/mixer"
	"ratchet/sample"
)

func squareIs(t *testing.T, a, b api.Tensor, f int, want int64) {
	t.Helper()
	if got, e := loss.Square(a, b, f); e != api.OK || !sample.Same(got, of(nil, want)) {
		t.Errorf("Square of %v, %v, %d: %v, %v; want %d", a, b, f, got, e, want)
	}
}

func squareTells(t *testing.T, a, b api.Tensor, f int, want api.Errno) {
	t.Helper()
	if got, e := loss.Square(a, b, f); e != want || !sample.IsZero(got) {
		t.Errorf("Square of %v, %v, %d: %v, %v; want %v", a, b, f, got, e, want)
	}
}

func huberIs(t *testing.T, a, b api.Tensor, d int64, f int, want int64) {
	t.Helper()
	if got, e := loss.Huber(a, b, d, f); e != api.OK || !sample.Same(got, of(nil, want)) {
		t.Errorf("Huber of %v, %v, %d, %d: %v, %v; want %d", a, b, d, f, got, e, want)
	}
}

func huberTells(t *testing.T, a, b api.Tensor, d int64, f int, want api.Errno) {
	t.Helper()
	if got, e := loss.Huber(a, b, d, f); e != want || !sample.IsZero(got) {
		t.Errorf("Huber of %v, %v, %d, %d: %v, %v; want %v", a, b, d, f, got, e, want)
	}
}

// bothTell holds what both calls tell where it does not hang on how far words are apart.
func bothTell(t *testing.T, a, b api.Tensor, f int, want api.Errno) {
	t.Helper()
	squareTells(t, a, b, f, want)
	squareTells(t, b, a, f, want)
	for _, d := range []int64{1, 256, most} {
		huberTells(t, a, b, d, f, want)
		huberTells(t, b, a, d, f, want)
	}
}

// word is R of n / d, as a word.
func word(n, d *big.Int) (int64, api.Errno) {
	twice := new(big.Int).Lsh(d, 1)
	up, rest := new(big.Int).Lsh(n, 1), new(big.Int)
	up.DivMod(up.Add(up, d), twice, rest)
	if rest.Sign() == 0 && up.Bit(0) == 1 {
		up.Sub(up, big.NewInt(1))
	}
	if up.CmpAbs(big.NewInt(most)) > 0 {
		return 0, api.ErrOver
	}
	return up.Int64(), api.OK
}

func product(factors ...int64) *big.Int {
	p := big.NewInt(1)
	for _, x := range factors {
		p.Mul(p, big.NewInt(x))
	}
	return p
}

func squareOf(a, b api.Tensor, f int) (int64, api.Errno) {
	sum := new(big.Int)
	for n := range a.Data {
		off := a.Data[n] - b.Data[n]
		sum.Add(sum, product(off, off))
	}
	return word(sum, product(int64(len(a.Data)), 1<<f))
}

func huberOf(a, b api.Tensor, d int64, f int) (int64, api.Errno) {
	sum := new(big.Int)
	for n := range a.Data {
		u := max(a.Data[n]-b.Data[n], b.Data[n]-a.Data[n])
		if u <= d {
			sum.Add(sum, product(u, u))
		} else {
			sum.Add(sum, product(2, d, u))
			sum.Sub(sum, product(d, d))
		}
	}
	return word(sum, product(2, int64(len(a.Data)), 1<<f))
}

// pairHolds holds what both calls tell, of a and b and of b and a, against the formulas.
func pairHolds(t *testing.T, a, b api.Tensor, f int, deltas ...int64) {
	t.Helper()
	if want, e := squareOf(a, b, f); e != api.OK {
		squareTells(t, a, b, f, e)
		squareTells(t, b, a, f, e)
	} else {
		squareIs(t, a, b, f, want)
		squareIs(t, b, a, f, want)
	}
	for _, d := range deltas {
		if want, e := huberOf(a, b, d, f); e != api.OK {
			huberTells(t, a, b, d, f, e)
			huberTells(t, b, a, d, f, e)
		} else {
			huberIs(t, a, b, d, f, want)
			huberIs(t, b, a, d, f, want)
		}
	}
}

// P16.2

func TestPairsOfAllShapesAndCounts(t *testing.T) {
	m := mixer.Mixer(171)
	for f := api.MinF; f <= api.MaxF; f++ {
		for _, s := range sample.Shapes() {
			if sample.Count(s) > 100 && f%8 != 0 {
				continue
			}
			for _, bits := range []int{3, f, (f+api.Bits)/2 - 2, (f + api.Bits) / 2, 47} { // squares that are hardly anything, to squares that are no words
				a, b := sample.Tensor(&m, s, bits), sample.Tensor(&m, s, bits)
				pairHolds(t, a, b, f, 1, 1<<(bits/2), 1<<f, 1<<(bits-2)+1, most)
			}
		}
	}
}

func TestPairsOfAsManyWordsAsThereMayBe(t *testing.T) {
	m := mixer.Mixer(172)
	for _, s := range [][]int{{16, 4096}, {256, 256}, {16, 16, 16, 16}} {
		for _, f := range []int{8, 32} {
			a, b := sample.Tensor(&m, s, 29), sample.Tensor(&m, s, 29)
			pairHolds(t, a, b, f, 1000, 1<<28)
			pairHolds(t, sample.Filled(s, most), sample.Filled(s, -most), f, 1, most)
			a, b = sample.Filled(s, 0), sample.Filled(s, 0)
			a.Data[m.Below(len(a.Data))] = most
			b.Data[m.Below(len(b.Data))] = -most / 2
			pairHolds(t, a, b, f, 1, 1<<46, most) // the sum is far above 64 bits
		}
	}
}

func TestPairExamples(t *testing.T) {
	squareIs(t, row(256), row(0), 8, 256)
	squareIs(t, of(nil, 256), of(nil, 0), 8, 256)
	squareIs(t, row(256, 0), row(0, 512), 8, 640) // of 1 and 4: 2.5
	huberIs(t, row(512), row(0), 256, 8, 384)
	huberIs(t, row(128), row(0), 256, 8, 32)          // a half of a quarter
	huberIs(t, row(0, 128), row(512, 0), 256, 8, 208) // of 1.5 and 0.125
}

func TestEachTwoWordsOfEightBits(t *testing.T) {
	for u := range int64(900) {
		pairHolds(t, row(u-450), row(-450), 8, 1, 2, 16, 255, 256, 257, 700)
	}
}

// Where the words are just as far apart as d both parts are one.
func TestHuberAboutItsTurn(t *testing.T) {
	m := mixer.Mixer(173)
	for f := api.MinF; f <= api.MaxF; f++ {
		for _, d := range []int64{1, 2, 3, 1 << f, 1<<f + 1, 1 << 30, 1<<30 - 1} {
			for u := max(d-3, 0); u <= d+3; u++ {
				at := sample.Words(&m, 1, 40)[0]
				pairHolds(t, row(at+u), row(at), f, d)
				pairHolds(t, row(at+u, at, at-u), row(at, at+d, at), f, d)
			}
		}
	}
}

func TestPairsOfEdges(t *testing.T) {
	for _, f := range []int{8, 9, 16, 31, 32} {
		for _, a := range sample.Edges() {
			for _, b := range sample.Edges() {
				pairHolds(t, row(a), row(b), f, 1, 256, 1<<46, most-1, most)
			}
		}
	}
}

func noughts(many int) api.Tensor { return sample.Filled([]int{many}, 0) }

func TestHalvesOfPairsGoToTheEvenOne(t *testing.T) {
	for _, c := range []struct {
		words []int64
		want  int64
	}{
		{[]int64{16, 0}, 0}, {[]int64{16, 16, 32, 0}, 2}, {[]int64{16, 32}, 2}, {[]int64{32, 16, 48, 0}, 4}, {[]int64{48, 0}, 4}, {[]int64{32, 48}, 6},
	} {
		squareIs(t, row(c.words...), noughts(len(c.words)), 8, c.want)
		squareIs(t, noughts(len(c.words)), row(c.words...), 8, c.want)
	}
	for _, c := range []struct {
		words []int64
		want  int64
	}{
		{[]int64{16}, 0}, {[]int64{16, 16, 16, 48}, 2}, {[]int64{48, 16}, 2}, {[]int64{16, 16, 16, 80}, 4}, {[]int64{48}, 4}, {[]int64{80}, 12},
	} {
		for _, d := range []int64{slices.Max(c.words), slices.Max(c.words) + 1, most} {
			huberIs(t, row(c.words...), noughts(len(c.words)), d, 8, c.want)
			huberIs(t, noughts(len(c.words)), row(c.words...), d, 8, c.want)
		}
	}
	for k, want := range []int64{0, 2, 2, 4, 4, 6, 6} { // 16 times what is beyond 8 is a half behind k
		u := int64(16 * (k + 1))
		huberIs(t, row(u), row(0), 16, 8, want)
		huberIs(t, row(-u-5), row(-5), 16, 8, want)
	}
}

// squares are 16 numbers that have this sum of squares.
func squares(t *testing.T, sum *big.Int) []int64 {
	t.Helper()
	list, rest := make([]int64, 16), new(big.Int).Set(sum)
	for n := range list {
		list[n] = new(big.Int).Sqrt(rest).Int64()
		rest.Sub(rest, product(list[n], list[n]))
	}
	if rest.Sign() != 0 {
		t.Fatalf("of %v is left %v", sum, rest)
	}
	return list
}

// A half behind the greatest word goes to the even one, which is none.
func TestPairsAHalfBehindTheGreatestWord(t *testing.T) {
	for f := api.MinF; f <= api.MaxF; f++ {
		sum := product(16, 2*most+1, 1<<(f-1))
		double := product(2, 16, 2*most+1, 1<<(f-1))
		squareTells(t, row(squares(t, sum)...), noughts(16), f, api.ErrOver)
		huberTells(t, row(squares(t, double)...), noughts(16), most, f, api.ErrOver)
		one := big.NewInt(1)
		squareIs(t, row(squares(t, sum.Sub(sum, one))...), noughts(16), f, most)
		huberIs(t, row(squares(t, double.Sub(double, one))...), noughts(16), most, f, most)
	}
}

func TestPairsThatAreNoWords(t *testing.T) {
	for f := api.MinF; f <= api.MaxF; f++ {
		squareTells(t, row(most), row(-most), f, api.ErrOver)
		squareTells(t, of(nil, -most), of(nil, most), f, api.ErrOver)
		squareTells(t, row(0, most, 0), row(0, 0, 0), f, api.ErrOver)
		huberTells(t, row(most), row(-most), most, f, api.ErrOver)

		d := int64(1) << f // what is beyond a half of d is told as it is
		huberIs(t, row(most), row(-d/2), d, f, most)
		huberTells(t, row(most), row(-d/2-1), d, f, api.ErrOver)
		huberIs(t, row(-d/2, 0), row(most, 0), d, f, 1<<46) // a half of the greatest word: to even
		huberTells(t, row(-d/2-1, most, -most), row(most, -d/2-1, d/2+1), d, f, api.ErrOver)
	}
}

// Errors

func TestPairsTellOfNoTensorsFirst(t *testing.T) {
	for _, bad := range append(sample.NoTensors(), api.Tensor{}) {
		for _, f := range []int{8, 32, 7} {
			bothTell(t, bad, bad, f, api.ErrForm)
			bothTell(t, bad, row(1, 2), f, api.ErrForm)
			bothTell(t, bad, of(nil, most), f, api.ErrForm)
		}
	}
}

func TestPairsTellOfNoCountsFirst(t *testing.T) {
	for _, f := range sample.NoCounts() {
		bothTell(t, row(1, 2), row(3, 4), f, api.ErrForm)
		bothTell(t, row(1, 2), row(3), f, api.ErrForm)
		bothTell(t, row(most), row(-most), f, api.ErrForm)
	}
}

func TestHuberTellsOfNoDeltasFirst(t *testing.T) {
	for _, d := range append(sample.NoWords(), 0, -1, -256, -most) {
		for _, f := range []int{8, 32, 7} {
			huberTells(t, row(1, 2), row(3, 4), d, f, api.ErrForm)
			huberTells(t, row(1, 2), row(1, 2), d, f, api.ErrForm)
			huberTells(t, row(1, 2), row(3), d, f, api.ErrForm)
			huberTells(t, row(most), row(-most), d, f, api.ErrForm)
		}
	}
}

func TestPairsOfOtherShapes(t *testing.T) {
	shapes := [][]int{nil, {1}, {1, 1}, {2}, {2, 1}, {1, 2}, {2, 3}, {3, 2}, {6}, {1, 6}, {2, 3, 1}, {1, 2, 3}, {1, 1, 2, 3}}
	for n, s := range shapes {
		for k, other := range shapes {
			if n != k {
				bothTell(t, sample.Filled(s, most), sample.Filled(other, -most), 8, api.ErrShape)
			}
		}
	}
	squareIs(t, of([]int{}, 5), of(nil, 5), 8, 0)
}

// P16.3

func TestPairsOfEquals(t *testing.T) {
	m := mixer.Mixer(174)
	for f := api.MinF; f <= api.MaxF; f++ {
		for _, s := range [][]int{nil, {1}, {5}, {2, 3, 4}} {
			a := sample.Tensor(&m, s, 47)
			squareIs(t, a, a, f, 0)
			squareIs(t, a, of(s, slices.Clone(a.Data)...), f, 0)
			for _, d := range []int64{1, 1 << f, most} {
				huberIs(t, a, a, d, f, 0)
			}
		}
	}
}

func TestPairsAreNotBelowNought(t *testing.T) {
	m := mixer.Mixer(175)
	for f := api.MinF; f <= api.MaxF; f++ {
		for range 30 {
			a, b := sample.Tensor(&m, []int{3, 4}, 26), sample.Tensor(&m, []int{3, 4}, 26)
			s, e := loss.Square(a, b, f)
			h, g := loss.Huber(a, b, 1+int64(m.Below(1<<26)), f)
			if e != api.OK || g != api.OK || s.Data[0] < 0 || h.Data[0] < 0 {
				t.Errorf("%v, %v, %d: %v, %v; %v, %v", a, b, f, s, e, h, g)
			}
		}
	}
}

func TestHuberWithAGreatDeltaIsHalfOfSquare(t *testing.T) {
	m := mixer.Mixer(176)
	for f := api.MinF; f <= api.MaxF; f++ {
		for range 30 {
			a, b := sample.Tensor(&m, []int{5, 2}, 26), sample.Tensor(&m, []int{5, 2}, 26)
			s, e := loss.Square(a, b, f)
			h, g := loss.Huber(a, b, 1<<27, f)
			if e != api.OK || g != api.OK || max(2*h.Data[0]-s.Data[0], s.Data[0]-2*h.Data[0]) > 1 {
				t.Errorf("%v, %v, %d: %v, %v; %v, %v", a, b, f, s, e, h, g)
			}
		}
	}
}

// No part of it falls where d rises.
func TestHuberRisesWithItsDelta(t *testing.T) {
	m := mixer.Mixer(177)
	for f := api.MinF; f <= api.MaxF; f++ {
		a, b := sample.Tensor(&m, []int{7}, 24), sample.Tensor(&m, []int{7}, 24)
		last := int64(0)
		for d := int64(1); d <= 1<<26; d *= 2 {
			h, e := loss.Huber(a, b, d, f)
			if e != api.OK || h.Data[0] < last {
				t.Errorf("%v, %v, %d, %d: %v, %v; of a lower one %d", a, b, d, f, h, e, last)
			}
			last = h.Data[0]
		}
	}
}

// R1, R2

func TestPairsNeitherChangeNorKeep(t *testing.T) {
	m := mixer.Mixer(178)
	for _, s := range [][]int{nil, {3}, {2, 3}, {2, 2, 2, 2}} {
		words, others := sample.Words(&m, sample.Count(s), 20), sample.Words(&m, sample.Count(s), 20)
		wantS, _ := squareOf(of(s, words...), of(s, others...), 10)
		wantH, _ := huberOf(of(s, words...), of(s, others...), 3000, 10)
		for range 2 { // the second time, after the answers of the first were spoiled
			a, b := sample.Roomy(s, words), sample.Roomy(s, others)
			gotS, _ := loss.Square(a, b, 10)
			gotH, _ := loss.Huber(a, b, 3000, 10)
			if !sample.AsHandedIn(a, s, words) || !sample.AsHandedIn(b, s, others) {
				t.Errorf("%v: handed in, now: %v, %v", s, a, b)
			}
			sample.Spoil(a)
			sample.Spoil(b)
			if !sample.Same(gotS, of(nil, wantS)) || !sample.Same(gotH, of(nil, wantH)) {
				t.Errorf("%v: %v, want %v; %v, want %v", s, gotS, wantS, gotH, wantH)
			}
			sample.Spoil(gotS)
			sample.Spoil(gotH)
		}
	}
}

func TestPairsChangeNothingBesideAnError(t *testing.T) {
	s, words := []int{2}, []int64{most, -most}
	a, b := sample.Roomy(s, words), sample.Roomy([]int{2, 1}, words)
	bothTell(t, a, b, 8, api.ErrShape)
	bothTell(t, a, b, 7, api.ErrForm)
	squareTells(t, a, row(-most, most), 8, api.ErrOver)
	huberTells(t, a, row(-most, most), most, 8, api.ErrOver)
	if !sample.AsHandedIn(a, s, words) || !sample.AsHandedIn(b, []int{2, 1}, words) {
		t.Errorf("%v, %v", a, b)
	}
}
