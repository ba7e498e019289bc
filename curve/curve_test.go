package curve_test

import (
	"math"
	"math/big"
	"slices"
	"testing"

	"ratchet/api"
	"ratchet/curve"
	"ratchet/mixer"
	"ratchet/sample"
)

const (
	most = 1<<47 - 1
	prec = 320
)

func noWords() []int64 {
	return []int64{-1 << 47, -1<<47 - 1, 1 << 47, 1<<47 + 1, 1 << 48, math.MaxInt64, math.MinInt64 + 1, math.MinInt64}
}

func float(x float64) *big.Float { return new(big.Float).SetPrec(prec).SetFloat64(x) }

// over is n / 2^f.
func over(n int64, f int) *big.Float {
	x := new(big.Float).SetPrec(prec).SetInt64(n)
	return x.SetMantExp(x, -f)
}

// expOf is e^x to some 280 bits, for an x that is not above 2^7: the series from its beginning on, of x over 2^16, and squares.
func expOf(x *big.Float) *big.Float {
	part := new(big.Float).SetPrec(prec).SetMantExp(x, -16)
	sum, term := float(1), float(1)
	for j := 1; j < 40; j++ {
		term.Mul(term, part)
		term.Quo(term, float(float64(j)))
		sum.Add(sum, term)
	}
	for range 16 {
		sum.Mul(sum, sum)
	}
	return sum
}

func sigmoidOf(x *big.Float) *big.Float {
	sum := float(0).Add(float(1), expOf(float(0).Neg(x)))
	return sum.Quo(float(1), sum)
}

func tanhOf(x *big.Float) *big.Float {
	up, down := expOf(x), expOf(float(0).Neg(x))
	return float(0).Quo(float(0).Sub(up, down), float(0).Add(up, down))
}

// wordOf is R of 2^f x. That x is too close to a half for what is known of it is the test's own fault.
func wordOf(t *testing.T, x *big.Float, f int) int64 {
	t.Helper()
	scaled := new(big.Float).SetPrec(prec).SetMantExp(x, f)
	down, _ := scaled.Int(nil)
	beside := float(0).Sub(scaled, new(big.Float).SetPrec(prec).SetInt(down))
	if beside.Sub(beside.Abs(beside), float(0.5)); beside.Sign() == 0 || beside.MantExp(nil) < -200 {
		t.Fatalf("%s over 2^%d is too close to a half", scaled, f)
	}
	k, _ := scaled.Add(scaled, float(0.5*float64(x.Sign()|1))).Int64()
	return k
}

func same(t *testing.T, what string, a int64, f int, got int64, e api.Errno, want int64, wantE api.Errno) {
	t.Helper()
	if got != want || e != wantE {
		t.Errorf("%s(%d, %d): %d, %v; want %d, %v", what, a, f, got, e, want, wantE)
	}
}

func sigmoidHolds(t *testing.T, a int64, f int) {
	t.Helper()
	got, e := curve.Sigmoid(a, f)
	same(t, "Sigmoid", a, f, got, e, wordOf(t, sigmoidOf(over(a, f)), f), api.OK)
}

func tanhHolds(t *testing.T, a int64, f int) {
	t.Helper()
	got, e := curve.Tanh(a, f)
	same(t, "Tanh", a, f, got, e, wordOf(t, tanhOf(over(a, f)), f), api.OK)
}

// softplusHolds asks powers alone: ln(1 + e^x) is less than half a word off just if 1 + e^x is between the powers of what is half a word less and more.
func softplusHolds(t *testing.T, a int64, f int) {
	t.Helper()
	got, e := curve.Softplus(a, f)
	sum := float(0).Add(float(1), expOf(over(a, f)))
	least, greatest := expOf(over(2*got-1, f+1)), expOf(over(2*got+1, f+1))
	if e != api.OK || sum.Cmp(least) <= 0 || sum.Cmp(greatest) >= 0 {
		t.Errorf("Softplus(%d, %d): %d, %v", a, f, got, e)
	}
}

func curvesHold(t *testing.T, a int64, f int) {
	t.Helper()
	sigmoidHolds(t, a, f)
	tanhHolds(t, a, f)
	softplusHolds(t, a, f)
}

func told(t *testing.T, a int64, f int, sigmoid, tanh, softplus int64, want api.Errno) {
	t.Helper()
	got, e := curve.Sigmoid(a, f)
	same(t, "Sigmoid", a, f, got, e, sigmoid, want)
	got, e = curve.Tanh(a, f)
	same(t, "Tanh", a, f, got, e, tanh, want)
	got, e = curve.Softplus(a, f)
	same(t, "Softplus", a, f, got, e, softplus, want)
}

func scaled(x float64, f int) int64 { return int64(math.Ldexp(x, f)) }

// ends are how far from 0 the last words lie, or beside them, at which Sigmoid, Tanh and Softplus are not yet on their lines: there they are half a word off.
func ends(f int) (sigmoid, tanh, softplus int64) {
	below := float64(f+1) * math.Ln2
	return scaled(below+math.Log1p(-math.Exp(-below)), f), scaled((below+math.Ln2)/2, f), scaled(below, f)
}

// near are words at most 64 from 0, of all lengths, in order: edges, what lies about 0, 1, the ends, and where powers are not asked any more.
func near(f int) []int64 {
	list := []int64{64 << f, 40 << f, 50 << f}
	sigmoid, tanh, softplus := ends(f)
	for _, edge := range []int64{0, 1 << f, 1 << (f - 1), 2 << f, 3 << f, sigmoid, tanh, softplus, int64(f) << f, int64(f+1) << f} {
		for off := int64(-3); off <= 3; off++ {
			list = append(list, edge+off)
		}
	}
	m := mixer.Mixer(21)
	for length := range f + 6 {
		list = append(list, int64(1)<<length, int64(1)<<length|int64(m.Next())&(1<<length-1))
	}
	for range 40 {
		list = append(list, int64(m.Next()%uint64(softplus)))
	}
	for _, a := range list {
		list = append(list, -a)
	}
	slices.Sort(list)
	return slices.Compact(list)
}

// words are near ones, and those that are farther from 0, up to both ends, in order.
func words(f int) []int64 {
	list := near(f)
	for _, a := range []int64{65 << f, 1 << 45, 1 << 46, most - 1<<f, most - 1, most} {
		list = append(list, a, -a)
	}
	m := mixer.Mixer(22)
	for length := f + 6; length < api.Bits; length++ {
		a := int64(1)<<length | int64(m.Next())&(1<<length-1)
		list = append(list, a, -a)
	}
	slices.Sort(list)
	return slices.Compact(list)
}

// P5.1

func TestRelu(t *testing.T) {
	for _, a := range words(8) {
		got, e := curve.Relu(a)
		want := a
		if a < 0 {
			want = 0
		}
		same(t, "Relu", a, 0, got, e, want, api.OK)
	}
	for _, a := range noWords() {
		got, e := curve.Relu(a)
		same(t, "Relu", a, 0, got, e, 0, api.ErrForm)
	}
}

func leakyIs(t *testing.T, a, s int64, f int, want int64, wantE api.Errno) {
	t.Helper()
	got, e := curve.Leaky(a, s, f)
	if got != want || e != wantE {
		t.Errorf("Leaky(%d, %d, %d): %d, %v; want %d, %v", a, s, f, got, e, want, wantE)
	}
}

// productOf is R of a s / 2^f by floors: what is over it, and the last bit of it, tell which way to go.
func productOf(a, s int64, f int) (int64, api.Errno) {
	whole := new(big.Int).Lsh(big.NewInt(1), uint(f))
	k, rest := new(big.Int).DivMod(new(big.Int).Mul(big.NewInt(a), big.NewInt(s)), whole, new(big.Int))
	half := rest.Lsh(rest, 1).Cmp(whole)
	if half > 0 || half == 0 && k.Bit(0) == 1 {
		k.Add(k, big.NewInt(1))
	}
	if k.CmpAbs(big.NewInt(most)) > 0 {
		return 0, api.ErrOver
	}
	return k.Int64(), api.OK
}

func TestLeaky(t *testing.T) {
	for f := api.MinF; f <= api.MaxF; f++ {
		one := int64(1) << f
		for _, a := range words(f) {
			for _, s := range []int64{0, 1, -1, one, -one, one / 2, -one / 2, one/2 + 1, one / 10, -one / 10, 3 * one, -3 * one, one - 1, one + 1, most, -most} {
				if a > 0 {
					leakyIs(t, a, s, f, a, api.OK)
					continue
				}
				want, wantE := productOf(a, s, f)
				leakyIs(t, a, s, f, want, wantE)
			}
		}
	}
}

func TestLeakyOfHalvesGoesToEven(t *testing.T) {
	for f := api.MinF; f <= api.MaxF; f++ {
		half := int64(1) << (f - 1)
		for k := int64(0); k < 50; k++ { // of the odd word -(2 k + 1) a half is -(k + 1/2)
			even := k + k%2
			leakyIs(t, -2*k-1, half, f, -even, api.OK)
			leakyIs(t, -2*k-1, -half, f, even, api.OK)
			leakyIs(t, -half, 2*k+1, f, -even, api.OK)
			leakyIs(t, -half, -2*k-1, f, even, api.OK)
		}
	}
}

func TestLeakyThatIsNoWord(t *testing.T) {
	for f := api.MinF; f <= api.MaxF; f++ {
		one := int64(1) << f
		leakyIs(t, -most, one, f, -most, api.OK)
		leakyIs(t, -most, -one, f, most, api.OK)
		leakyIs(t, -most, one+1, f, 0, api.ErrOver)
		leakyIs(t, -most, -one-1, f, 0, api.ErrOver)
		leakyIs(t, -1<<46, 2*one, f, 0, api.ErrOver)
		leakyIs(t, -1<<46, -2*one, f, 0, api.ErrOver)
		leakyIs(t, -1<<46, 2*one-1, f, -1<<47+1<<(46-f), api.OK)
		leakyIs(t, -most, most, f, 0, api.ErrOver)
		leakyIs(t, -most, -most, f, 0, api.ErrOver)
		leakyIs(t, most, most, f, most, api.OK) // above 0 the slope is not asked
		leakyIs(t, most, -most, f, most, api.OK)
		leakyIs(t, 1, most, f, 1, api.OK)
		leakyIs(t, 0, most, f, 0, api.OK)
		leakyIs(t, 0, -most, f, 0, api.OK)
	}
}

func TestLeakyOfWhatIsNone(t *testing.T) {
	for _, no := range noWords() {
		for _, f := range append(sample.NoCounts(), 8, 17, 32) {
			for _, word := range append(noWords(), 0, 1, -1, 256, most, -most) {
				leakyIs(t, no, word, f, 0, api.ErrForm)
				leakyIs(t, word, no, f, 0, api.ErrForm) // a slope that is none is refused even where it is not asked
			}
		}
	}
	for _, f := range sample.NoCounts() {
		for _, a := range []int64{0, 1, -1, 256, -256, most, -most} { // products that are no words come behind
			for _, s := range []int64{0, 26, most, -most} {
				leakyIs(t, a, s, f, 0, api.ErrForm)
			}
		}
	}
}

// P5.2

func TestCurves(t *testing.T) {
	for f := api.MinF; f <= api.MaxF; f++ {
		for _, a := range near(f) {
			curvesHold(t, a, f)
		}
	}
}

func TestEachWordOfEightBits(t *testing.T) {
	for a := int64(-10 << 8); a <= 10<<8; a++ {
		curvesHold(t, a, 8)
	}
}

func TestAtNought(t *testing.T) {
	for f := api.MinF; f <= api.MaxF; f++ {
		told(t, 0, f, 1<<(f-1), 0, scaled(math.Ln2, f)+int64(scaled(math.Ln2, f+1)&1), api.OK)
	}
}

func TestFarFromNought(t *testing.T) {
	for f := api.MinF; f <= api.MaxF; f++ {
		_, _, end := ends(f)
		m := mixer.Mixer(23)
		list := []int64{end + 2, end + 1<<f, int64(f+1)<<f - 1, int64(f+1) << f, int64(f+1)<<f + 1, 64 << f, 1 << 46, most - 1, most}
		for length := f + 6; length < api.Bits; length++ {
			list = append(list, int64(1)<<length, int64(1)<<length|int64(m.Next())&(1<<length-1))
		}
		for _, a := range list {
			told(t, a, f, 1<<f, 1<<f, a, api.OK)
			told(t, -a, f, 0, -1<<f, 0, api.OK)
		}
	}
}

// At its end a curve is half a word off its line: one word inwards it rounds to the word beside the line, one word outwards to the line.
func TestEnds(t *testing.T) {
	for f := api.MinF; f <= api.MaxF; f++ {
		sigmoid, tanh, softplus := ends(f)
		for _, c := range []struct {
			what   string
			reckon func(int64, int) (int64, api.Errno)
			a      int64
			off    int64
			want   int64
		}{
			{"Sigmoid", curve.Sigmoid, -sigmoid, 2, 1}, {"Sigmoid", curve.Sigmoid, -sigmoid, -2, 0},
			{"Sigmoid", curve.Sigmoid, sigmoid, -2, 1<<f - 1}, {"Sigmoid", curve.Sigmoid, sigmoid, 2, 1 << f},
			{"Tanh", curve.Tanh, -tanh, 2, -1<<f + 1}, {"Tanh", curve.Tanh, -tanh, -2, -1 << f},
			{"Tanh", curve.Tanh, tanh, -2, 1<<f - 1}, {"Tanh", curve.Tanh, tanh, 2, 1 << f},
			{"Softplus", curve.Softplus, -softplus, 2, 1}, {"Softplus", curve.Softplus, -softplus, -2, 0},
			{"Softplus", curve.Softplus, softplus, -2, softplus - 1}, {"Softplus", curve.Softplus, softplus, 2, softplus + 2},
		} {
			got, e := c.reckon(c.a+c.off, f)
			same(t, c.what, c.a+c.off, f, got, e, c.want, api.OK)
		}
	}
}

// Sigmoid is 1/2 + x/4 - x^3/48 + ..: where a is 2 more than a multiple of 4, all ahead of x^3 is a half between two words.
func TestSigmoidCloseToHalves(t *testing.T) {
	for f := 16; f <= api.MaxF; f++ {
		middle := int64(1) << (f - 1)
		for m := int64(0); m < 40; m++ {
			got, e := curve.Sigmoid(4*m+2, f)
			same(t, "Sigmoid", 4*m+2, f, got, e, middle+m, api.OK)
			got, e = curve.Sigmoid(-4*m-2, f)
			same(t, "Sigmoid", -4*m-2, f, got, e, middle-m, api.OK)
		}
	}
}

// Tanh is x - x^3/3 + 2 x^5/15 - ..: of x three times an odd number over 2^11, at 32 bits all ahead of x^5 is a half between two words.
func TestTanhCloseToHalves(t *testing.T) {
	for m := int64(1); m < 8; m += 2 {
		a, off := m*3<<21, 9*m*m*m/2 // off is by a half too short
		got, e := curve.Tanh(a, 32)
		same(t, "Tanh", a, 32, got, e, a-off, api.OK)
		got, e = curve.Tanh(-a, 32)
		same(t, "Tanh", -a, 32, got, e, off-a, api.OK)
	}
}

// These are by less than 2^-28 off a half between two words, now above it, now below: as close as some 10^9 words have brought to light.
func TestClosestToHalves(t *testing.T) {
	bothHold := func(hold func(*testing.T, int64, int), f int, list ...int64) {
		t.Helper()
		for _, a := range list {
			hold(t, a, f)
			hold(t, -a, f)
		}
	}
	bothHold(sigmoidHolds, 32, 56524434248, 68753689466, 57249963515)
	bothHold(sigmoidHolds, 24, 272295342)
	bothHold(tanhHolds, 32, 14810082517, 3412383463)
	bothHold(softplusHolds, 32, 8874446541, 59882877413, 76750681798, 16590885564, 83493604824)
}

func TestBesideNought(t *testing.T) {
	for f := 16; f <= api.MaxF; f++ {
		for a := int64(-20); a <= 20; a++ { // the next term is far below a half
			got, e := curve.Tanh(a, f)
			same(t, "Tanh", a, f, got, e, a, api.OK)
		}
	}
}

func TestNoWordsAreRefused(t *testing.T) {
	for _, a := range noWords() {
		for f := api.MinF; f <= api.MaxF; f++ {
			told(t, a, f, 0, 0, 0, api.ErrForm)
		}
	}
}

func TestNoCountsAreRefused(t *testing.T) {
	for _, f := range sample.NoCounts() {
		for _, a := range append(noWords(), 0, 1, -1, 256, -256, most, -most) {
			told(t, a, f, 0, 0, 0, api.ErrForm)
		}
	}
}

func TestExamples(t *testing.T) {
	for _, c := range []struct {
		what    string
		reckon  func(int64, int) (int64, api.Errno)
		a, want int64
	}{
		{"Sigmoid", curve.Sigmoid, 0, 128}, {"Sigmoid", curve.Sigmoid, 256, 187},
		{"Tanh", curve.Tanh, 256, 195}, {"Softplus", curve.Softplus, 0, 177},
	} {
		got, e := c.reckon(c.a, 8)
		same(t, c.what, c.a, 8, got, e, c.want, api.OK)
	}
	leakyIs(t, -300, 26, 8, -30, api.OK)
}

// P5.3

// rises holds what is told of rising words against what was told ahead of it.
func rises(t *testing.T, what string, list []int64, f int, reckon func(a int64) (int64, api.Errno)) {
	t.Helper()
	lowest := int64(-most)
	for _, a := range list {
		got, e := reckon(a)
		if e == api.ErrOver && what == "Leaky" && lowest == -most { // the products of the least words are no words
			continue
		}
		if e != api.OK || got < lowest {
			t.Errorf("%s(%d, %d): %d, %v; of a lower word %d", what, a, f, got, e, lowest)
		}
		lowest = got
	}
}

func allRise(t *testing.T, list []int64, f int) {
	t.Helper()
	rises(t, "Relu", list, f, curve.Relu)
	rises(t, "Sigmoid", list, f, func(a int64) (int64, api.Errno) { return curve.Sigmoid(a, f) })
	rises(t, "Tanh", list, f, func(a int64) (int64, api.Errno) { return curve.Tanh(a, f) })
	rises(t, "Softplus", list, f, func(a int64) (int64, api.Errno) { return curve.Softplus(a, f) })
	for _, s := range []int64{0, 1, 26, 1 << (f - 1), 1 << f, 1<<f + 1, 3 << f, most} {
		rises(t, "Leaky", list, f, func(a int64) (int64, api.Errno) { return curve.Leaky(a, s, f) })
	}
}

func TestGreaterWords(t *testing.T) {
	for f := api.MinF; f <= api.MaxF; f++ {
		allRise(t, words(f), f)
	}
	var list []int64
	for a := int64(-12 << 8); a <= 12<<8; a++ {
		list = append(list, a)
	}
	allRise(t, list, 8)
}

func TestBothSides(t *testing.T) {
	for f := api.MinF; f <= api.MaxF; f++ {
		for _, a := range words(f) {
			there, e := curve.Sigmoid(a, f)
			back, g := curve.Sigmoid(-a, f)
			if off := there + back - 1<<f; off < -1 || off > 1 || e != api.OK || g != api.OK {
				t.Errorf("Sigmoid(%d, %d) and of its negative: %d, %v; %d, %v", a, f, there, e, back, g)
			}
			there, e = curve.Tanh(a, f)
			back, g = curve.Tanh(-a, f)
			if there != -back || e != api.OK || g != api.OK {
				t.Errorf("Tanh(%d, %d) and of its negative: %d, %v; %d, %v", a, f, there, e, back, g)
			}
		}
	}
}
