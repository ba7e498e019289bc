package wide_test

import (
	"math"
	"math/big"
	"testing"

	"ratchet/api"
	"ratchet/mixer"
	"ratchet/wide"
)

var (
	greatest = api.Wide{Hi: math.MaxInt64, Lo: math.MaxUint64}
	least    = api.Wide{Hi: math.MinInt64}
	zero     = api.Wide{}
)

// bigOf reads a wide number by the chapter's own words: Hi 2^64 + Lo.
func bigOf(w api.Wide) *big.Int {
	hi := new(big.Int).Lsh(big.NewInt(w.Hi), 64)
	return hi.Add(hi, new(big.Int).SetUint64(w.Lo))
}

func wideOf(b *big.Int) (api.Wide, api.Errno) {
	if b.Cmp(bigOf(least)) < 0 || b.Cmp(bigOf(greatest)) > 0 {
		return zero, api.ErrOver
	}
	lo := new(big.Int).And(b, new(big.Int).SetUint64(math.MaxUint64))
	return api.Wide{Hi: new(big.Int).Rsh(b, 64).Int64(), Lo: lo.Uint64()}, api.OK
}

// bigDown and bigRound are reckoned by floors of a divisor above 0, unlike the program, which works without signs.
func bigDown(n, d *big.Int) (quotient, rest, by *big.Int) {
	if d.Sign() < 0 {
		n, d = new(big.Int).Neg(n), new(big.Int).Neg(d)
	}
	quotient, rest = new(big.Int).DivMod(n, d, new(big.Int))
	return quotient, rest, d
}

func bigRound(n, d *big.Int) *big.Int {
	quotient, rest, by := bigDown(n, d)
	half := new(big.Int).Lsh(rest, 1).Cmp(by)
	if half > 0 || half == 0 && quotient.Bit(0) == 1 {
		quotient.Add(quotient, big.NewInt(1))
	}
	return quotient
}

func edges() []api.Wide {
	list := []api.Wide{least, greatest, {Hi: math.MinInt64, Lo: 1}, {Hi: math.MaxInt64, Lo: math.MaxUint64 - 1}}
	for n := int64(-7); n <= 7; n++ {
		list = append(list, wide.From(n))
	}
	for _, power := range []uint{1, 31, 32, 47, 62, 63, 64, 65, 94, 125, 126} {
		for off := int64(-1); off <= 1; off++ {
			b := new(big.Int).Lsh(big.NewInt(1), power)
			b.Add(b, big.NewInt(off))
			above, _ := wideOf(b)
			under, _ := wideOf(b.Neg(b))
			list = append(list, above, under)
		}
	}
	for _, text := range []string{"9999999999999999999", "10000000000000000000", "10000000000000000001", "99999999999999999999999999999999999999", "100000000000000000000000000000000000000", "-100000000000000000000000000000000000007"} {
		b, _ := new(big.Int).SetString(text, 10)
		w, _ := wideOf(b)
		list = append(list, w)
	}
	return list
}

// samples are the edges, and numbers of all lengths.
func samples() []api.Wide {
	list := edges()
	m := mixer.Mixer(1)
	for length := uint(1); length <= 127; length++ {
		b := bigOf(api.Wide{Hi: int64(m.Next() >> 1), Lo: m.Next()})
		b.Rsh(b, 127-length)
		if m.Next()%2 == 1 {
			b.Neg(b)
		}
		w, _ := wideOf(b)
		list = append(list, w)
	}
	return list
}

func words() []int64 {
	list := []int64{math.MinInt64, math.MinInt64 + 1, -1 << 47, -1<<32 - 1, -1 << 32, -3, -2, -1, 0, 1, 2, 3, 10, 1<<32 - 1, 1 << 32, 1<<47 - 1, math.MaxInt64 - 1, math.MaxInt64}
	m := mixer.Mixer(2)
	for length := 1; length <= 64; length++ {
		list = append(list, int64(m.Next())>>(64-length))
	}
	return list
}

func holds(t *testing.T, what string, got api.Wide, e api.Errno, want *big.Int) {
	t.Helper()
	w, wantE := wideOf(want)
	if got != w || e != wantE {
		t.Errorf("%s: %v, %v; want %v (%v)", what, bigOf(got), e, want, wantE)
	}
}

func refuses(t *testing.T, what string, got api.Wide, e, want api.Errno) {
	t.Helper()
	if e != want || got != zero {
		t.Errorf("%s: %v, %v; want 0, %v", what, bigOf(got), e, want)
	}
}

// P1.1

func TestFrom(t *testing.T) {
	for _, n := range words() {
		holds(t, "From", wide.From(n), api.OK, big.NewInt(n))
	}
}

func TestSmall(t *testing.T) {
	for _, n := range words() {
		if got, is := wide.Small(wide.From(n)); got != n || !is {
			t.Errorf("Small of %d: %d, %t", n, got, is)
		}
	}
	for _, w := range samples() {
		b := bigOf(w)
		want := int64(0)
		if b.IsInt64() {
			want = b.Int64()
		}
		if got, is := wide.Small(w); got != want || is != b.IsInt64() {
			t.Errorf("Small of %v: %d, %t", b, got, is)
		}
	}
	for _, w := range []api.Wide{{Lo: 1 << 63}, {Hi: -1, Lo: 1<<63 - 1}, {Hi: 1}, {Hi: -1}, {Hi: 1, Lo: 5}, {Hi: -2, Lo: math.MaxUint64}, least, greatest} {
		if got, is := wide.Small(w); got != 0 || is {
			t.Errorf("Small of %v: %d, %t", bigOf(w), got, is)
		}
	}
}

func TestSignAndCmp(t *testing.T) {
	list := samples()
	for _, a := range list {
		if got := wide.Sign(a); got != bigOf(a).Sign() {
			t.Errorf("Sign of %v: %d", bigOf(a), got)
		}
		for _, b := range list {
			if got := wide.Cmp(a, b); got != bigOf(a).Cmp(bigOf(b)) {
				t.Errorf("Cmp of %v, %v: %d", bigOf(a), bigOf(b), got)
			}
		}
	}
}

func TestMul(t *testing.T) {
	list := words()
	for _, a := range list {
		for _, b := range list {
			holds(t, "Mul", wide.Mul(a, b), api.OK, new(big.Int).Mul(big.NewInt(a), big.NewInt(b)))
		}
	}
}

// P1.2

func TestAddAndSub(t *testing.T) {
	list := samples()
	for _, a := range list {
		for _, b := range list {
			sum, e := wide.Add(a, b)
			holds(t, "Add", sum, e, new(big.Int).Add(bigOf(a), bigOf(b)))
			rest, e := wide.Sub(a, b)
			holds(t, "Sub", rest, e, new(big.Int).Sub(bigOf(a), bigOf(b)))
		}
	}
}

func TestNeg(t *testing.T) {
	for _, a := range samples() {
		got, e := wide.Neg(a)
		holds(t, "Neg", got, e, new(big.Int).Neg(bigOf(a)))
	}
	got, e := wide.Neg(least)
	refuses(t, "Neg of the least", got, e, api.ErrOver)
}

func TestLeft(t *testing.T) {
	for _, w := range samples() {
		for n := 0; n <= 126; n++ {
			got, e := wide.Left(w, n)
			holds(t, "Left", got, e, new(big.Int).Lsh(bigOf(w), uint(n)))
		}
	}
	half := api.Wide{Hi: -1 << 62}
	got, e := wide.Left(half, 1)
	holds(t, "Left to the least", got, e, bigOf(least))
}

func TestLeftOutOfRange(t *testing.T) {
	for _, n := range []int{math.MinInt, -128, -1, 127, 128, 256, math.MaxInt} {
		for _, w := range []api.Wide{zero, wide.From(1), wide.From(-1), least, greatest} {
			got, e := wide.Left(w, n)
			refuses(t, "Left", got, e, api.ErrForm)
		}
	}
}

// P1.3

func checkQuotients(t *testing.T, n, d api.Wide) {
	t.Helper()
	got, e := wide.Round(n, d)
	down, downE := wide.Down(n, d)
	if d == zero {
		refuses(t, "Round by 0", got, e, api.ErrZero)
		refuses(t, "Down by 0", down, downE, api.ErrZero)
		return
	}
	holds(t, "Round", got, e, bigRound(bigOf(n), bigOf(d)))
	floor, _, _ := bigDown(bigOf(n), bigOf(d))
	holds(t, "Down", down, downE, floor)
}

func TestRoundAndDown(t *testing.T) {
	list := samples()
	for _, n := range list {
		for _, d := range list {
			checkQuotients(t, n, d)
		}
	}
	for n := int64(-40); n <= 40; n++ {
		for d := int64(-9); d <= 9; d++ {
			checkQuotients(t, wide.From(n), wide.From(d))
		}
	}
}

func TestRoundHalvesToEven(t *testing.T) {
	for _, c := range []struct{ n, d, want int64 }{
		{5, 2, 2}, {7, 2, 4}, {-5, 2, -2}, {7, -2, -4}, {-7, -2, 4}, {1, 2, 0}, {-1, 2, 0}, {3, 2, 2}, {-3, 2, -2}, {15, 10, 2}, {25, 10, 2}, {-25, 10, -2}, {-35, 10, -4},
	} {
		got, e := wide.Round(wide.From(c.n), wide.From(c.d))
		holds(t, "Round", got, e, big.NewInt(c.want))
	}
	m := mixer.Mixer(3)
	for range 2000 {
		// (2 k + 1) h over 2 h lies just between k and k + 1; one beside it does not.
		h := int64(m.Next()>>2) >> (m.Next() % 60)
		k := int64(m.Next()>>2) >> (m.Next() % 60)
		if h == 0 {
			h = 1
		}
		n, d := wide.Mul(2*k+1, h), wide.Mul(2, h)
		for _, n := range []api.Wide{n, negative(n)} {
			for _, d := range []api.Wide{d, negative(d)} {
				checkQuotients(t, n, d)
				checkQuotients(t, plus(n, 1), d)
				checkQuotients(t, plus(n, -1), d)
			}
		}
	}
	for _, n := range []api.Wide{{Hi: 1 << 62}, {Hi: 1 << 62, Lo: 1}, {Hi: -1 << 62}, {Hi: -1<<62 - 1, Lo: math.MaxUint64}, {Hi: 3 << 61}, {Hi: -3 << 61}} {
		for _, d := range []api.Wide{least, {Hi: 1 << 62}, {Hi: -1 << 62}} {
			checkQuotients(t, n, d)
		}
	}
}

func negative(w api.Wide) api.Wide {
	n, _ := wide.Neg(w)
	return n
}

func plus(w api.Wide, n int64) api.Wide {
	sum, _ := wide.Add(w, wide.From(n))
	return sum
}

func TestQuotientsAtTheEnds(t *testing.T) {
	for _, c := range []struct{ n, d, round, down api.Wide }{
		{least, wide.From(1), least, least},
		{greatest, wide.From(1), greatest, greatest},
		{greatest, wide.From(-1), api.Wide{Hi: math.MinInt64, Lo: 1}, api.Wide{Hi: math.MinInt64, Lo: 1}},
		{least, least, wide.From(1), wide.From(1)},
		{greatest, least, wide.From(-1), wide.From(-1)},
		{least, greatest, wide.From(-1), wide.From(-2)},
		{least, wide.From(2), api.Wide{Hi: -1 << 62}, api.Wide{Hi: -1 << 62}},
		{greatest, wide.From(2), api.Wide{Hi: 1 << 62}, api.Wide{Hi: 1<<62 - 1, Lo: math.MaxUint64}},
	} {
		got, e := wide.Round(c.n, c.d)
		holds(t, "Round", got, e, bigOf(c.round))
		got, e = wide.Down(c.n, c.d)
		holds(t, "Down", got, e, bigOf(c.down))
	}
	got, e := wide.Round(least, wide.From(-1))
	refuses(t, "Round past the greatest", got, e, api.ErrOver)
	got, e = wide.Down(least, wide.From(-1))
	refuses(t, "Down past the greatest", got, e, api.ErrOver)
}

func TestDivisorOfZero(t *testing.T) {
	for _, n := range samples() {
		got, e := wide.Round(n, zero)
		refuses(t, "Round", got, e, api.ErrZero)
		got, e = wide.Down(n, zero)
		refuses(t, "Down", got, e, api.ErrZero)
	}
}

// P1.4

func TestText(t *testing.T) {
	for _, w := range samples() {
		if got := wide.Text(w); got != bigOf(w).String() {
			t.Errorf("Text of %v: %s", bigOf(w), got)
		}
	}
	for _, c := range []struct {
		w    api.Wide
		want string
	}{
		{zero, "0"}, {wide.From(-1), "-1"},
		{greatest, "170141183460469231731687303715884105727"},
		{least, "-170141183460469231731687303715884105728"},
		{wide.Mul(1_000_000_000_000_000_000, 10), "10000000000000000000"},
		{wide.Mul(-1_000_000_000_000_000_000, 10), "-10000000000000000000"},
	} {
		if got := wide.Text(c.w); got != c.want {
			t.Errorf("%s, want %s", got, c.want)
		}
	}
}

// P1.5

func TestRing(t *testing.T) {
	list := edges()
	for _, a := range list {
		for _, b := range list {
			there, e := wide.Add(a, b)
			back, backE := wide.Add(b, a)
			if there != back || e != backE {
				t.Errorf("Add of %v, %v hangs on their order", bigOf(a), bigOf(b))
			}
			if rest, restE := wide.Sub(there, b); e == api.OK && (rest != a || restE != api.OK) {
				t.Errorf("Sub does not undo Add of %v, %v", bigOf(a), bigOf(b))
			}
			for _, c := range list {
				checkGrouping(t, a, b, c)
			}
		}
	}
}

// checkGrouping holds the law to where both ways are told: one of them may leave the wide numbers on its way.
func checkGrouping(t *testing.T, a, b, c api.Wide) {
	t.Helper()
	ab, e1 := wide.Add(a, b)
	bc, e2 := wide.Add(b, c)
	first, e3 := wide.Add(ab, c)
	second, e4 := wide.Add(a, bc)
	if e1 == api.OK && e2 == api.OK && (first != second || e3 != e4) {
		t.Errorf("Add of %v, %v, %v hangs on their grouping", bigOf(a), bigOf(b), bigOf(c))
	}
}

func TestProductsAreARing(t *testing.T) {
	list := words()
	for _, a := range list {
		if wide.Mul(a, 1) != wide.From(a) || wide.Mul(a, 0) != zero {
			t.Errorf("Mul of %d by 1 or 0", a)
		}
		for _, b := range list {
			if wide.Mul(a, b) != wide.Mul(b, a) {
				t.Errorf("Mul of %d, %d hangs on their order", a, b)
			}
			for _, c := range list {
				sum, is := wide.Small(mustAdd(wide.From(b), wide.From(c)))
				if is && wide.Mul(a, sum) != mustAdd(wide.Mul(a, b), wide.Mul(a, c)) {
					t.Errorf("%d times the sum of %d, %d", a, b, c)
				}
			}
		}
	}
}

// mustAdd is for sums of which the law says that they are wide numbers.
func mustAdd(a, b api.Wide) api.Wide {
	sum, e := wide.Add(a, b)
	if e != api.OK {
		panic("no wide number")
	}
	return sum
}

func TestRoundIsAtMostAHalfAway(t *testing.T) {
	list := samples()
	for _, n := range list {
		for _, d := range list {
			got, e := wide.Round(n, d)
			if e != api.OK {
				continue
			}
			off := new(big.Int).Mul(bigOf(got), bigOf(d))
			off.Sub(off, bigOf(n)).Lsh(off, 1)
			if off.CmpAbs(bigOf(d)) > 0 {
				t.Errorf("Round of %v, %v: %v", bigOf(n), bigOf(d), bigOf(got))
			}
		}
	}
}

func TestRoundOfTheNegative(t *testing.T) {
	list := samples()
	for _, n := range list {
		minus, e := wide.Neg(n)
		if e != api.OK {
			continue
		}
		for _, d := range list {
			there, e := wide.Round(n, d)
			back, backE := wide.Round(minus, d)
			if sum, sumE := wide.Add(there, back); e != backE || sum != zero || sumE != api.OK {
				t.Errorf("Round of %v and its negative by %v", bigOf(n), bigOf(d))
			}
		}
	}
}
