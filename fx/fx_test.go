package fx_test

import (
	"math"
	"math/big"
	"strconv"
	"strings"
	"testing"

	"ratchet/api"
	"ratchet/fx"
	"ratchet/mixer"
	"ratchet/sample"
	"ratchet/wide"
)

const most = 1<<47 - 1

func words() []int64 {
	list := []int64{-most, -most + 1, -1 << 46, -1<<46 + 1, -384, -256, -255, -3, -2, -1, 0, 1, 2, 3, 85, 255, 256, 257, 384, 768, 1 << 32, 1<<32 - 1, 1 << 46, 1<<46 - 1, most - 1, most}
	m := mixer.Mixer(3)
	for length := 2; length <= 48; length++ {
		v := int64(m.Next()) >> (64 - length)
		if v > -1<<47 {
			list = append(list, v)
		}
	}
	return list
}

func noWords() []int64 {
	return []int64{1 << 47, -1 << 47, 1<<47 + 1, -1<<47 - 1, math.MaxInt64, math.MinInt64}
}

func counts() []int { return []int{8, 9, 16, 23, 31, 32} }

func power(n int) *big.Int { return new(big.Int).Lsh(big.NewInt(1), uint(n)) }

// roundOf is R by the chapter's own words: the nearest of the whole numbers about x, of two that are as near the even one.
func roundOf(x *big.Rat) *big.Int {
	down := new(big.Int).Div(x.Num(), x.Denom())
	up := new(big.Int).Add(down, big.NewInt(1))
	below := new(big.Rat).Sub(x, new(big.Rat).SetInt(down))
	above := new(big.Rat).Sub(new(big.Rat).SetInt(up), x)
	switch c := below.Cmp(above); {
	case c < 0 || c == 0 && down.Bit(0) == 0:
		return down
	default:
		return up
	}
}

func wordOf(x *big.Rat) (int64, api.Errno) {
	r := roundOf(x)
	if new(big.Int).Abs(r).Cmp(big.NewInt(most)) > 0 {
		return 0, api.ErrOver
	}
	return r.Int64(), api.OK
}

func rat(n, d *big.Int) *big.Rat { return new(big.Rat).SetFrac(n, d) }

func same(t *testing.T, what string, got int64, e api.Errno, want int64, wantE api.Errno) {
	t.Helper()
	if got != want || e != wantE {
		t.Errorf("%s: %d, %v; want %d, %v", what, got, e, want, wantE)
	}
}

func holds(t *testing.T, what string, got int64, e api.Errno, x *big.Rat) {
	t.Helper()
	want, wantE := wordOf(x)
	same(t, what, got, e, want, wantE)
}

func name(what string, numbers ...int64) string {
	for _, n := range numbers {
		what += " " + strconv.FormatInt(n, 10)
	}
	return what
}

// P2.1

func TestCheck(t *testing.T) {
	for _, v := range words() {
		if e := fx.Check(v); e != api.OK {
			t.Errorf("%d is a word: %v", v, e)
		}
	}
	for _, v := range noWords() {
		if e := fx.Check(v); e != api.ErrForm {
			t.Errorf("%d is no word: %v", v, e)
		}
	}
}

func TestCheckF(t *testing.T) {
	for f := -3; f < 70; f++ {
		want := api.ErrForm
		if f >= 8 && f <= 32 {
			want = api.OK
		}
		if e := fx.CheckF(f); e != want {
			t.Errorf("%d: %v", f, e)
		}
	}
	for _, f := range sample.NoCounts() {
		if e := fx.CheckF(f); e != api.ErrForm {
			t.Errorf("%d: %v", f, e)
		}
	}
}

func TestNoWordsAreRefusedFirst(t *testing.T) {
	for _, v := range noWords() {
		for _, o := range []int64{0, 1, most, v} { // a divisor of 0, and answers that are no words, come behind
			got, e := fx.Add(v, o)
			same(t, name("Add", v, o), got, e, 0, api.ErrForm)
			got, e = fx.Add(o, v)
			same(t, name("Add", o, v), got, e, 0, api.ErrForm)
			got, e = fx.Sub(v, o)
			same(t, name("Sub", v, o), got, e, 0, api.ErrForm)
			got, e = fx.Sub(o, v)
			same(t, name("Sub", o, v), got, e, 0, api.ErrForm)
			got, e = fx.Mul(v, o, 8)
			same(t, name("Mul", v, o), got, e, 0, api.ErrForm)
			got, e = fx.Mul(o, v, 8)
			same(t, name("Mul", o, v), got, e, 0, api.ErrForm)
			got, e = fx.Div(v, o, 8)
			same(t, name("Div", v, o), got, e, 0, api.ErrForm)
			got, e = fx.Div(o, v, 8)
			same(t, name("Div", o, v), got, e, 0, api.ErrForm)
		}
		got, e := fx.Neg(v)
		same(t, name("Neg", v), got, e, 0, api.ErrForm)
		if text, e := fx.Text(v, 8); text != "" || e != api.ErrForm {
			t.Errorf("Text %d: %q, %v", v, text, e)
		}
	}
}

func TestNoCountsAreRefusedFirst(t *testing.T) {
	for _, f := range sample.NoCounts() {
		for _, b := range []int64{0, 1, most} {
			got, e := fx.Mul(most, b, f)
			same(t, name("Mul", b, int64(f)), got, e, 0, api.ErrForm)
			got, e = fx.Div(most, b, f)
			same(t, name("Div", b, int64(f)), got, e, 0, api.ErrForm)
			got, e = fx.Ratio(math.MaxInt64, b, f)
			same(t, name("Ratio", b, int64(f)), got, e, 0, api.ErrForm)
		}
		if text, e := fx.Text(1, f); text != "" || e != api.ErrForm {
			t.Errorf("Text with %d: %q, %v", f, text, e)
		}
		for _, s := range []string{"1", "x", "99999999999999999999"} {
			got, e := fx.Parse(s, f)
			same(t, name("Parse "+s, int64(f)), got, e, 0, api.ErrForm)
		}
	}
}

// P2.2

func TestSums(t *testing.T) {
	for _, a := range words() {
		for _, b := range words() {
			got, e := fx.Add(a, b)
			holds(t, name("Add", a, b), got, e, rat(big.NewInt(a+b), big.NewInt(1)))
			got, e = fx.Sub(a, b)
			holds(t, name("Sub", a, b), got, e, rat(big.NewInt(a-b), big.NewInt(1)))
		}
		got, e := fx.Neg(a)
		same(t, name("Neg", a), got, e, -a, api.OK)
	}
}

func TestProductsAndQuotients(t *testing.T) {
	for _, f := range counts() {
		for _, a := range words() {
			for _, b := range words() {
				got, e := fx.Mul(a, b, f)
				holds(t, name("Mul", a, b, int64(f)), got, e, rat(new(big.Int).Mul(big.NewInt(a), big.NewInt(b)), power(f)))
				got, e = fx.Div(a, b, f)
				if b == 0 {
					same(t, name("Div", a, b, int64(f)), got, e, 0, api.ErrZero)
					continue
				}
				holds(t, name("Div", a, b, int64(f)), got, e, rat(new(big.Int).Mul(big.NewInt(a), power(f)), big.NewInt(b)))
			}
		}
	}
}

func TestHalvesGoToEven(t *testing.T) {
	for _, c := range []struct{ a, b, want int64 }{
		{1, 128, 0}, {-1, 128, 0}, {3, 128, 2}, {-3, 128, -2}, {5, 128, 2}, {-5, 128, -2}, {7, -128, -4}, {1, 129, 1}, {-1, 129, -1}, {1, 127, 0}, {3, 127, 1},
	} {
		got, e := fx.Mul(c.a, c.b, 8)
		same(t, name("Mul", c.a, c.b), got, e, c.want, api.OK)
	}
	for _, c := range []struct{ a, b, want int64 }{
		{1, 512, 0}, {-1, 512, 0}, {3, 512, 2}, {3, -512, -2}, {5, 512, 2}, {-5, 512, -2}, {-7, -512, 4}, {0, -512, 0},
	} {
		got, e := fx.Div(c.a, c.b, 8)
		same(t, name("Div", c.a, c.b), got, e, c.want, api.OK)
	}
}

func TestExamples(t *testing.T) {
	got, e := fx.Mul(384, 384, 8)
	same(t, "Mul 384 384", got, e, 576, api.OK)
	got, e = fx.Div(256, 768, 8)
	same(t, "Div 256 768", got, e, 85, api.OK)
	if text, e := fx.Text(-1, 8); text != "-0.00390625" || e != api.OK {
		t.Errorf("Text -1: %q, %v", text, e)
	}
	got, e = fx.Parse("0.1", 8)
	same(t, "Parse 0.1", got, e, 26, api.OK)
	got, e = fx.Add(1<<46, 1<<46)
	same(t, "Add 2^46 2^46", got, e, 0, api.ErrOver)
}

// P2.3

func TestRatio(t *testing.T) {
	numbers := append(noWords(), words()...)
	for _, f := range counts() {
		for _, n := range numbers {
			for _, d := range numbers {
				got, e := fx.Ratio(n, d, f)
				if d == 0 {
					same(t, name("Ratio", n, d, int64(f)), got, e, 0, api.ErrZero)
					continue
				}
				holds(t, name("Ratio", n, d, int64(f)), got, e, rat(new(big.Int).Mul(big.NewInt(n), power(f)), big.NewInt(d)))
			}
		}
	}
}

func bigOf(w api.Wide) *big.Int {
	hi := new(big.Int).Lsh(big.NewInt(w.Hi), 64)
	return hi.Add(hi, new(big.Int).SetUint64(w.Lo))
}

func wides() []api.Wide {
	list := []api.Wide{{Hi: math.MaxInt64, Lo: math.MaxUint64}, {Hi: math.MinInt64}, {Hi: math.MinInt64, Lo: 1}, {Hi: 0, Lo: 1 << 63}, {Hi: -1}, {Hi: 1 << 62}, {Hi: 3 << 61}}
	for _, v := range words() {
		list = append(list, wide.From(v))
		for _, n := range []int{1, 20, 64, 79} {
			for _, more := range []int64{-1, 0, 1} {
				w, _ := wide.Left(wide.From(2*v+1), n) // a half, and what lies about it, when n + 1 are closed
				w, _ = wide.Add(w, wide.From(more))
				list = append(list, w)
			}
		}
	}
	return list
}

func TestClose(t *testing.T) {
	for _, w := range wides() {
		for _, n := range []int{0, 1, 2, 8, 21, 32, 63, 64, 65, 80, 125, 126} {
			got, e := fx.Close(w, n)
			holds(t, name("Close "+wide.Text(w), int64(n)), got, e, rat(bigOf(w), power(n)))
		}
		for _, n := range []int{-1, 127, 128, math.MinInt, math.MaxInt} {
			got, e := fx.Close(w, n)
			same(t, name("Close "+wide.Text(w), int64(n)), got, e, 0, api.ErrForm)
		}
	}
}

// P2.4

func TestText(t *testing.T) {
	for _, c := range []struct {
		a    int64
		f    int
		want string
	}{
		{0, 8, "0"}, {0, 32, "0"}, {256, 8, "1"}, {-256, 8, "-1"}, {2560, 8, "10"}, {25600, 8, "100"}, {384, 8, "1.5"}, {-128, 8, "-0.5"}, {26, 8, "0.1015625"}, {1, 32, "0.00000000023283064365386962890625"}, {-1, 9, "-0.001953125"}, {most, 8, "549755813887.99609375"}, {-most, 8, "-549755813887.99609375"}, {most, 32, "32767.99999999976716935634613037109375"}, {1 << 46, 8, "274877906944"}, {1 << 46, 32, "16384"},
	} {
		if text, e := fx.Text(c.a, c.f); text != c.want || e != api.OK {
			t.Errorf("Text %d %d: %q, %v; want %q", c.a, c.f, text, e, c.want)
		}
	}
	for _, f := range counts() {
		for _, a := range words() {
			want := rat(big.NewInt(a), power(f)).FloatString(f)
			want = strings.TrimSuffix(strings.TrimRight(want, "0"), ".")
			if text, e := fx.Text(a, f); text != want || e != api.OK {
				t.Errorf("Text %d %d: %q, %v; want %q", a, f, text, e, want)
			}
		}
	}
}

func TestTextsThatAreNone(t *testing.T) {
	long := strings.Repeat("0", 65)
	for _, s := range []string{
		"", "-", ".", "-.", "1.", ".1", "-1.", "-.1", "--1", "+1", "1-", "1.-1", "1.2.3", "1..2", " 1", "1 ", "1 1", "\n1", "1\x00", "1e3", "0x1", "1_0", "1,5", "x", "1x1", "1.x", "1.5x", "x.5", "١", "1.٢", "\xff", "NaN", "inf",
		long, long[:64] + "1", "-" + long[:64], "0." + long[:63], long[:64] + "x", strings.Repeat("9", 1000) + ".",
	} {
		for _, f := range counts() {
			got, e := fx.Parse(s, f)
			same(t, name("Parse "+strconv.Quote(s), int64(f)), got, e, 0, api.ErrForm)
		}
	}
}

func texts() []string {
	list := []string{
		"0", "-0", "0.0", "-0.000", "00", "007", "-007.500", "0.1", "-0.1", "1.999", "0.5", "3.14159265358979323846264338327950288419716939937510582097494",
		"549755813887", "549755813887.998", "549755813887.9980468749", "549755813887.998046875", "549755813888", "-549755813888", "-549755813887.998046875", "999999999999", "18446744073709551616", "-18446744073709551617", "340282366920938463463374607431768211456",
		"32767", "32768", "32767.99999999988", "32767.9999999998835846781730651855468750000000000000000000000", "32767.9999999998835846781730651855468749999999999999999999999", "-32767.99999999988358467817306518554687500000000000000000000001",
		strings.Repeat("9", 64), strings.Repeat("0", 63) + "1", "-" + strings.Repeat("0", 62) + "9", "0." + strings.Repeat("0", 61) + "1", "0." + strings.Repeat("9", 62), "-1." + strings.Repeat("9", 61),
	}
	for _, f := range counts() { // halves of words, and what lies about them in the last of 64 bytes
		for _, v := range []int64{0, 1, 2, 3, 6, 7, 100, 101, most >> 10, most - 1, most} {
			half := rat(big.NewInt(2*v+1), power(f+1)).FloatString(f + 1)
			above := half + strings.Repeat("0", 62-len(half)) + "1"
			place := rat(big.NewInt(1), new(big.Int).Exp(big.NewInt(10), big.NewInt(int64(40)), nil))
			under := new(big.Rat).Sub(rat(big.NewInt(2*v+1), power(f+1)), place).FloatString(40)
			list = append(list, half, above, under, "-"+half, "-"+above, "-"+under)
		}
	}
	m := mixer.Mixer(4)
	for range 400 {
		text := strconv.FormatUint(m.Next()%(1<<(m.Next()%41)), 10) + "." + strconv.FormatUint(m.Next(), 10)
		list = append(list, text, "-"+text+strconv.FormatUint(m.Next(), 10))
	}
	return list
}

func TestParse(t *testing.T) {
	for _, s := range texts() {
		if len(s) > 64 {
			t.Fatalf("%q is too long", s)
		}
		x, ok := new(big.Rat).SetString(s)
		if !ok {
			t.Fatalf("%q is none", s)
		}
		for _, f := range counts() {
			got, e := fx.Parse(s, f)
			holds(t, name("Parse "+s, int64(f)), got, e, new(big.Rat).Mul(x, rat(power(f), big.NewInt(1))))
		}
	}
}

// P2.5

func TestOneChangesNothing(t *testing.T) {
	for f := api.MinF; f <= api.MaxF; f++ {
		for _, a := range words() {
			got, e := fx.Mul(a, 1<<f, f)
			same(t, name("Mul by 1", a, int64(f)), got, e, a, api.OK)
			got, e = fx.Mul(1<<f, a, f)
			same(t, name("Mul of 1", a, int64(f)), got, e, a, api.OK)
			got, e = fx.Div(a, 1<<f, f)
			same(t, name("Div by 1", a, int64(f)), got, e, a, api.OK)
		}
	}
}

func TestMulGoesBothWays(t *testing.T) {
	for _, f := range counts() {
		for _, a := range words() {
			for _, b := range words() {
				got, e := fx.Mul(a, b, f)
				want, wantE := fx.Mul(b, a, f)
				same(t, name("Mul", a, b, int64(f)), got, e, want, wantE)
			}
		}
	}
}

func TestTextIsReadAsItsWord(t *testing.T) {
	for f := api.MinF; f <= api.MaxF; f++ {
		for _, a := range words() {
			text, e := fx.Text(a, f)
			if e != api.OK {
				t.Errorf("Text %d %d: %v", a, f, e)
			}
			got, e := fx.Parse(text, f)
			same(t, name("Parse "+text, int64(f)), got, e, a, api.OK)
		}
	}
}
