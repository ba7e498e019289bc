package expo_test

import (
	"math"
	"math/big"
	"slices"
	"testing"

	"ratchet/api"
	"ratchet/expo"
	"ratchet/fx"
	"ratchet/mixer"
	"ratchet/sample"
)

const (
	most = 1<<47 - 1
	prec = 320
)

func noWords() []int64 {
	return []int64{-1 << 47, -1<<47 - 1, 1 << 47, 1<<47 + 1, 1 << 48, math.MaxInt64, math.MinInt64}
}

func float(x float64) *big.Float { return new(big.Float).SetPrec(prec).SetFloat64(x) }

func value(a int64, f int) *big.Float {
	x := new(big.Float).SetPrec(prec).SetInt64(a)
	return x.SetMantExp(x, -f)
}

// expOf is e^x to some 290 bits: the series from its beginning on, of x over 2^16, and squares.
func expOf(x *big.Float) *big.Float {
	part := new(big.Float).SetPrec(prec).SetMantExp(x, -16)
	sum, term := float(1), float(1)
	for j := 1; j < 40; j++ {
		term.Mul(term, part)
		term.Quo(term, float(float64(j)))
		sum.Add(sum, term)
	}
	for range 16 {
		sum.Mul(sum, sum)
	}
	return sum
}

// lnOf is ln x by Halley's steps, each of which has three times the bits.
func lnOf(x *big.Float) *big.Float {
	start, _ := x.Float64()
	y := float(math.Log(start))
	for range 2 {
		e := expOf(y)
		up, down := float(0).Sub(x, e), float(0).Add(x, e)
		y.Add(y, up.Quo(up.Mul(up, float(2)), down))
	}
	return y
}

// wordOf is R of 2^f x. That x is too close to a half for what is known of it is the test's own fault.
func wordOf(t *testing.T, x *big.Float, f int) (int64, api.Errno) {
	t.Helper()
	scaled := new(big.Float).SetPrec(prec).SetMantExp(x, f)
	down, _ := scaled.Int(nil)
	beside := float(0).Sub(scaled, new(big.Float).SetPrec(prec).SetInt(down))
	if beside.Sub(beside, float(0.5)); beside.Sign() == 0 || beside.MantExp(nil) < -120 {
		t.Fatalf("%s over 2^%d is too close to a half", scaled, f)
	}
	k, _ := scaled.Add(scaled, float(0.5*float64(x.Sign()|1))).Int(nil)
	if k.CmpAbs(big.NewInt(most)) > 0 {
		return 0, api.ErrOver
	}
	return k.Int64(), api.OK
}

func same(t *testing.T, what string, a int64, f int, got int64, e api.Errno, want int64, wantE api.Errno) {
	t.Helper()
	if got != want || e != wantE {
		t.Errorf("%s(%d, %d): %d, %v; want %d, %v", what, a, f, got, e, want, wantE)
	}
}

func expHolds(t *testing.T, a int64, f int) {
	t.Helper()
	got, e := expo.Exp(a, f)
	want, wantE := wordOf(t, expOf(value(a, f)), f)
	same(t, "Exp", a, f, got, e, want, wantE)
}

func lnHolds(t *testing.T, a int64, f int) {
	t.Helper()
	got, e := expo.Ln(a, f)
	want, wantE := wordOf(t, lnOf(value(a, f)), f)
	same(t, "Ln", a, f, got, e, want, wantE)
}

// topOf is the word from which on e^x is no word, or beside it: 2^f e^x is 2^47 there.
func topOf(f int) int64 {
	return int64(math.Ldexp(float64(api.Bits-f)*math.Ln2, f))
}

// endOf is the word below which e^x is nothing, or beside it: 2^f e^x is a half there.
func endOf(f int) int64 {
	return -int64(math.Ldexp(float64(f+1)*math.Ln2, f))
}

// exponents are words whose powers are words and something, of all lengths, in order, and what lies about both ends.
func exponents(f int) []int64 {
	list := []int64{0}
	for _, edge := range []int64{0, 1 << f, -1 << f, topOf(f), endOf(f), 1 << (f - 1), 2 << f, 3 << f, -2 << f} {
		for off := int64(-3); off <= 3; off++ {
			list = append(list, edge+off)
		}
	}
	m := mixer.Mixer(11)
	for length := range api.Bits {
		v := int64(1)<<length | int64(m.Next())&(1<<length-1)
		list = append(list, v, -v)
	}
	for range 40 {
		list = append(list, endOf(f)+int64(m.Next()%uint64(topOf(f)-endOf(f))))
	}
	list = slices.DeleteFunc(list, func(a int64) bool { return a < endOf(f)-3 || a > topOf(f)+3 })
	slices.Sort(list)
	return slices.Compact(list)
}

// lengths are words above 0, of all lengths, in order: edges, and what lies about 1 and the powers of 2.
func lengths(f int) []int64 {
	list := []int64{1, 2, 3, most - 1, most}
	for off := int64(-9); off <= 9; off++ {
		list = append(list, 1<<f+off)
	}
	m := mixer.Mixer(12)
	for length := range api.Bits {
		power := int64(1) << length
		list = append(list, power, max(power-1, 1), min(power+1, most))
		list = append(list, power|int64(m.Next())&(power-1))
	}
	slices.Sort(list)
	return slices.Compact(list)
}

// P4.1

func TestExp(t *testing.T) {
	for f := api.MinF; f <= api.MaxF; f++ {
		for _, a := range exponents(f) {
			expHolds(t, a, f)
		}
	}
}

func TestLn(t *testing.T) {
	for f := api.MinF; f <= api.MaxF; f++ {
		for _, a := range lengths(f) {
			lnHolds(t, a, f)
		}
	}
}

func TestExpOfEachWordOfEightBits(t *testing.T) {
	for a := endOf(8) - 3; a <= topOf(8)+3; a++ {
		expHolds(t, a, 8)
	}
}

func TestNoughtAndOne(t *testing.T) {
	for f := api.MinF; f <= api.MaxF; f++ {
		one := int64(1) << f
		got, e := expo.Exp(0, f)
		same(t, "Exp", 0, f, got, e, one, api.OK)
		got, e = expo.Ln(one, f)
		same(t, "Ln", one, f, got, e, 0, api.OK)
	}
}

// Beside 0 a power is 1 + x, and beside 1 a logarithm is x: their next terms are far below a half.
func TestBesideNoughtAndOne(t *testing.T) {
	for f := 12; f <= api.MaxF; f++ {
		one := int64(1) << f
		for off := int64(-20); off <= 20; off++ {
			got, e := expo.Exp(off, f)
			same(t, "Exp", off, f, got, e, one+off, api.OK)
			got, e = expo.Ln(one+off, f)
			same(t, "Ln", one+off, f, got, e, off, api.OK)
		}
	}
}

// Where the square of x is an odd number over 2^f, its half in e^x = 1 + x + x^2/2 + .. is a half between two words, and only x^3/6 leads away from it; in ln (1 + x) = x - x^2/2 + .. likewise x^3/3.
func TestCloseToHalves(t *testing.T) {
	for f := api.MinF; f <= api.MaxF; f += 2 {
		side := int64(1) << (f / 2)
		for m := int64(1); m < 40 && m < side; m += 2 {
			expHolds(t, m*side, f)
			expHolds(t, -m*side, f)
			lnHolds(t, 1<<f+m*side, f)
			lnHolds(t, 1<<f-m*side, f)
		}
	}
	one, side := int64(1)<<32, int64(1)<<16
	for _, c := range []struct {
		reckon  func(int64, int) (int64, api.Errno)
		a, want int64
	}{
		{expo.Exp, side, one + side + 1}, {expo.Exp, -side, one - side}, // even would be the one below, the one above
		{expo.Ln, one + side, side}, {expo.Ln, one - side, -side - 1},
	} {
		got, e := c.reckon(c.a, 32)
		same(t, "close to a half", c.a, 32, got, e, c.want, api.OK)
	}
}

// These are by less than 2^-31 off a half between two words, now above it, now below: as close as some 10^10 words have brought to light.
func TestClosestToHalves(t *testing.T) {
	for _, a := range []int64{41156510528, -28333237690, -33611073571, -63718707923, 24129855808, -6425212028, 28705498955} {
		expHolds(t, a, 32)
	}
	for _, a := range []int64{-59934499, -190503105} {
		expHolds(t, a, 24)
	}
	for _, a := range []int64{32978253641, 109269458315455, 39892805791, 45576024743, 54700191365, 36066019698944, 38478134643, 106136569719774, 39159082674, 57778356664} {
		lnHolds(t, a, 32)
	}
}

func TestEnds(t *testing.T) {
	for f := api.MinF; f <= api.MaxF; f++ {
		top := topOf(f)
		got, e := expo.Exp(top-1, f)
		if e != api.OK || got < most-most>>(f-1) {
			t.Errorf("Exp(%d, %d): %d, %v", top-1, f, got, e)
		}
		for _, a := range []int64{top + 2, top + 1<<f, 2 * top, 64 << f, 1 << 46, most - 1, most} {
			got, e = expo.Exp(a, f)
			same(t, "Exp", a, f, got, e, 0, api.ErrOver)
		}
		end := endOf(f)
		got, e = expo.Exp(end+2, f)
		same(t, "Exp", end+2, f, got, e, 1, api.OK)
		for _, a := range []int64{end - 2, end - 1<<f, 2 * end, -64 << f, -1 << 46, -most + 1, -most} {
			got, e = expo.Exp(a, f)
			same(t, "Exp", a, f, got, e, 0, api.OK)
		}
	}
}

func TestNoLogarithms(t *testing.T) {
	for f := api.MinF; f <= api.MaxF; f++ {
		got, e := expo.Ln(0, f)
		same(t, "Ln", 0, f, got, e, 0, api.ErrZero)
		for _, a := range []int64{-1, -2, -1 << f, -1 << 46, -most} {
			got, e = expo.Ln(a, f)
			same(t, "Ln", a, f, got, e, 0, api.ErrForm)
		}
	}
}

func TestNoWordsAreRefused(t *testing.T) {
	for _, a := range noWords() {
		for _, f := range []int{8, 17, 32} {
			got, e := expo.Exp(a, f)
			same(t, "Exp", a, f, got, e, 0, api.ErrForm)
			got, e = expo.Ln(a, f)
			same(t, "Ln", a, f, got, e, 0, api.ErrForm)
		}
	}
}

func TestNoCountsAreRefusedFirst(t *testing.T) {
	for _, f := range sample.NoCounts() {
		for _, a := range append(noWords(), 0, 1, -1, 256, 7000, most, -most) { // powers that are too great, and ln 0, come behind
			got, e := expo.Exp(a, f)
			same(t, "Exp", a, f, got, e, 0, api.ErrForm)
			got, e = expo.Ln(a, f)
			same(t, "Ln", a, f, got, e, 0, api.ErrForm)
		}
	}
}

func TestExamples(t *testing.T) {
	for _, c := range []struct {
		what    string
		reckon  func(int64, int) (int64, api.Errno)
		a, want int64
		e       api.Errno
	}{
		{"Exp", expo.Exp, 256, 696, api.OK}, {"Exp", expo.Exp, 0, 256, api.OK}, {"Exp", expo.Exp, -2000, 0, api.OK},
		{"Ln", expo.Ln, 512, 177, api.OK}, {"Exp", expo.Exp, 7000, 0, api.ErrOver},
	} {
		got, e := c.reckon(c.a, 8)
		same(t, c.what, c.a, 8, got, e, c.want, c.e)
	}
}

// P4.2

func TestGreaterWords(t *testing.T) {
	for f := api.MinF; f <= api.MaxF; f++ {
		lowest, over := int64(0), false
		for _, a := range exponents(f) {
			got, e := expo.Exp(a, f)
			over = over || e == api.ErrOver
			if over != (e == api.ErrOver) || !over && got < lowest {
				t.Errorf("Exp(%d, %d): %d, %v; of a lower word %d", a, f, got, e, lowest)
			}
			lowest = got
		}
		lowest = -most
		for _, a := range lengths(f) {
			got, e := expo.Ln(a, f)
			if e != api.OK || got < lowest {
				t.Errorf("Ln(%d, %d): %d, %v; of a lower word %d", a, f, got, e, lowest)
			}
			lowest = got
		}
	}
}

// A power is a half off at most: so its logarithm is by a half of 2^f over it, and by what the roundings take.
func TestLnOfExp(t *testing.T) {
	for f := api.MinF; f <= api.MaxF; f++ {
		for _, a := range exponents(f) {
			power, e := expo.Exp(a, f)
			if e != api.OK || power == 0 {
				continue
			}
			got, e := expo.Ln(power, f)
			if e != api.OK || max(got-a, a-got) > 1<<f/power+1 {
				t.Errorf("Ln(Exp(%d), %d): %d, %v", a, f, got, e)
			}
		}
	}
}

func TestExpOfASum(t *testing.T) {
	m := mixer.Mixer(13)
	for f := api.MinF; f <= api.MaxF; f++ {
		for range 50 {
			span := uint64(topOf(f))
			a, b := int64(m.Next()%span)-int64(span)/2, int64(m.Next()%span)-int64(span)/2
			whole, e := expo.Exp(a+b, f)
			one, g := expo.Exp(a, f)
			other, h := expo.Exp(b, f)
			product, over := fx.Mul(one, other, f)
			if e != api.OK || g != api.OK || h != api.OK || over != api.OK {
				t.Errorf("Exp(%d + %d, %d): %v, %v, %v, %v", a, b, f, e, g, h, over)
			}
			if max(whole-product, product-whole) > (one+other)>>f+2 {
				t.Errorf("Exp(%d + %d, %d): %d; the product %d", a, b, f, whole, product)
			}
		}
	}
}
