package root_test

import (
	"math"
	"math/big"
	"slices"
	"strconv"
	"testing"

	"ratchet/api"
	"ratchet/mixer"
	"ratchet/root"
	"ratchet/sample"
)

const most = 1<<47 - 1

// words are the words that are not below 0: edges, squares and what lies about them, and words of all lengths, in order.
func words() []int64 {
	list := []int64{0, most - 1, most}
	m := mixer.Mixer(5)
	for length := 1; length <= 47; length++ {
		power := int64(1) << (length - 1)
		list = append(list, power-1, power, min(power+1, most))
		for range 20 {
			list = append(list, power|int64(m.Next())&(power-1))
		}
	}
	for range 500 {
		side := int64(m.Next() % 11863283) // the greatest root of a word is one less
		side >>= m.Next() % 23
		square := side * side
		list = append(list, max(square-1, 0), square, square+1, side*(side+1), side*(side+1)+1)
	}
	slices.Sort(list)
	return slices.Compact(list)
}

func noWords() []int64 {
	return []int64{-1, -2, -256, -most, -1 << 47, -1<<47 - 1, 1 << 47, 1<<47 + 1, 1 << 48, math.MaxInt64, math.MinInt64}
}

func power(n int) *big.Int { return new(big.Int).Lsh(big.NewInt(1), uint(n)) }

// rootOf is R of the root of n / d: the root rounded down, or the next one, as the square of what is half-way tells.
func rootOf(n, d *big.Int) (int64, api.Errno) {
	k := new(big.Int).Sqrt(new(big.Int).Div(n, d))
	odd := new(big.Int).Lsh(k, 1)
	odd.Add(odd, big.NewInt(1))
	mark := odd.Mul(odd, odd)
	mark.Mul(mark, d)
	side := new(big.Int).Lsh(n, 2).Cmp(mark)
	if side > 0 || side == 0 && k.Bit(0) == 1 {
		k.Add(k, big.NewInt(1))
	}
	if k.Cmp(big.NewInt(most)) > 0 {
		return 0, api.ErrOver
	}
	return k.Int64(), api.OK
}

func same(t *testing.T, what string, a int64, f int, got int64, e api.Errno, want int64, wantE api.Errno) {
	t.Helper()
	if got != want || e != wantE {
		t.Errorf("%s(%s, %d): %d, %v; want %d, %v", what, strconv.FormatInt(a, 10), f, got, e, want, wantE)
	}
}

// P3.1

func TestSqrt(t *testing.T) {
	for f := api.MinF; f <= api.MaxF; f++ {
		for _, a := range words() {
			got, e := root.Sqrt(a, f)
			want, wantE := rootOf(new(big.Int).Mul(big.NewInt(a), power(f)), big.NewInt(1))
			same(t, "Sqrt", a, f, got, e, want, wantE)
		}
	}
}

func TestRsqrt(t *testing.T) {
	for f := api.MinF; f <= api.MaxF; f++ {
		for _, a := range words()[1:] {
			got, e := root.Rsqrt(a, f)
			want, wantE := rootOf(power(3*f), big.NewInt(a))
			same(t, "Rsqrt", a, f, got, e, want, wantE)
		}
	}
}

func TestSmallWordsOneByOne(t *testing.T) {
	for _, f := range []int{8, 9, 31, 32} {
		for a := int64(1); a < 5000; a++ {
			got, e := root.Sqrt(a, f)
			want, wantE := rootOf(new(big.Int).Mul(big.NewInt(a), power(f)), big.NewInt(1))
			same(t, "Sqrt", a, f, got, e, want, wantE)
			got, e = root.Rsqrt(a, f)
			want, wantE = rootOf(power(3*f), big.NewInt(a))
			same(t, "Rsqrt", a, f, got, e, want, wantE)
		}
	}
}

// Where a 2^f is about k (k + 1), the root is about a half above k.
func TestSqrtAboutHalves(t *testing.T) {
	m := mixer.Mixer(6)
	for f := api.MinF; f <= api.MaxF; f++ {
		for range 300 {
			k := int64(m.Next() % (1 << 39) >> (m.Next() % 39))
			near := new(big.Int).Mul(big.NewInt(k), big.NewInt(k+1))
			near.Rsh(near, uint(f))
			if near.Cmp(big.NewInt(most)) >= 0 {
				continue
			}
			for _, a := range []int64{near.Int64(), near.Int64() + 1} {
				got, e := root.Sqrt(a, f)
				want, wantE := rootOf(new(big.Int).Mul(big.NewInt(a), power(f)), big.NewInt(1))
				same(t, "Sqrt", a, f, got, e, want, wantE)
			}
		}
	}
}

// 2^(3 f) / a is (k + 1/2)^2 where a is 2^(3 f + 2) over an odd square: as near to that as words come.
func TestRsqrtAboutHalves(t *testing.T) {
	m := mixer.Mixer(7)
	for f := api.MinF; f <= api.MaxF; f++ {
		for range 300 {
			odd := big.NewInt(int64(m.Next()%(1<<48)>>(m.Next()%48)) | 1)
			near := new(big.Int).Div(power(3*f+2), odd.Mul(odd, odd))
			for _, off := range []int64{-1, 0, 1} {
				a := new(big.Int).Add(near, big.NewInt(off))
				if a.Sign() <= 0 || a.Cmp(big.NewInt(most)) > 0 {
					continue
				}
				got, e := root.Rsqrt(a.Int64(), f)
				want, wantE := rootOf(power(3*f), a)
				same(t, "Rsqrt", a.Int64(), f, got, e, want, wantE)
			}
		}
	}
}

func TestRsqrtOfAHalfGoesToEven(t *testing.T) {
	for f := api.MinF; 3*f+2 < api.Bits; f++ {
		half := int64(1) << (3*f + 2)
		got, e := root.Rsqrt(half, f)
		same(t, "Rsqrt", half, f, got, e, 0, api.OK)
		got, e = root.Rsqrt(half-1, f)
		same(t, "Rsqrt", half-1, f, got, e, 1, api.OK)
		got, e = root.Rsqrt(half+1, f)
		same(t, "Rsqrt", half+1, f, got, e, 0, api.OK)
	}
}

func TestRsqrtThatIsNoWord(t *testing.T) {
	for _, c := range []struct {
		a    int64
		f    int
		want int64
		e    api.Errno
	}{
		{1, 32, 0, api.ErrOver}, {2, 32, 0, api.ErrOver}, {3, 32, 0, api.ErrOver}, {4, 32, 0, api.ErrOver},
		{5, 32, 125879436378039, api.OK}, {1, 31, 99516432383215, api.OK}, {1, 30, 1 << 45, api.OK},
	} {
		got, e := root.Rsqrt(c.a, c.f)
		same(t, "Rsqrt", c.a, c.f, got, e, c.want, c.e)
	}
}

func TestNoughtAndOne(t *testing.T) {
	for f := api.MinF; f <= api.MaxF; f++ {
		got, e := root.Sqrt(0, f)
		same(t, "Sqrt", 0, f, got, e, 0, api.OK)
		got, e = root.Rsqrt(0, f)
		same(t, "Rsqrt", 0, f, got, e, 0, api.ErrZero)
		got, e = root.Sqrt(1<<f, f)
		same(t, "Sqrt", 1<<f, f, got, e, 1<<f, api.OK)
		got, e = root.Rsqrt(1<<f, f)
		same(t, "Rsqrt", 1<<f, f, got, e, 1<<f, api.OK)
	}
}

func TestNoWordsAreRefused(t *testing.T) {
	for _, a := range noWords() {
		for _, f := range []int{8, 17, 32} {
			got, e := root.Sqrt(a, f)
			same(t, "Sqrt", a, f, got, e, 0, api.ErrForm)
			got, e = root.Rsqrt(a, f)
			same(t, "Rsqrt", a, f, got, e, 0, api.ErrForm)
		}
	}
}

func TestNoCountsAreRefusedFirst(t *testing.T) {
	for _, f := range sample.NoCounts() {
		for _, a := range append(noWords(), 0, 1, 256, most) { // a division by 0, and answers that are no words, come behind
			got, e := root.Sqrt(a, f)
			same(t, "Sqrt", a, f, got, e, 0, api.ErrForm)
			got, e = root.Rsqrt(a, f)
			same(t, "Rsqrt", a, f, got, e, 0, api.ErrForm)
		}
	}
}

func TestExamples(t *testing.T) {
	got, e := root.Sqrt(512, 8)
	same(t, "Sqrt", 512, 8, got, e, 362, api.OK)
	got, e = root.Rsqrt(512, 8)
	same(t, "Rsqrt", 512, 8, got, e, 181, api.OK)
	got, e = root.Rsqrt(1<<26, 8)
	same(t, "Rsqrt", 1<<26, 8, got, e, 0, api.OK)
	got, e = root.Rsqrt(1, 32)
	same(t, "Rsqrt", 1, 32, got, e, 0, api.ErrOver)
}

// P3.2

func TestGreaterWords(t *testing.T) {
	for f := api.MinF; f <= api.MaxF; f++ {
		lowest, highest := int64(0), int64(math.MaxInt64)
		for _, a := range words()[1:] {
			got, e := root.Sqrt(a, f)
			if e != api.OK || got < lowest {
				t.Errorf("Sqrt(%d, %d): %d, %v; of a lower word %d", a, f, got, e, lowest)
			}
			lowest = got
			got, e = root.Rsqrt(a, f)
			if e != api.OK && highest < math.MaxInt64 || got > highest {
				t.Errorf("Rsqrt(%d, %d): %d, %v; of a lower word %d", a, f, got, e, highest)
			}
			if e == api.OK {
				highest = got
			}
		}
	}
}

func TestRootsOfFourTimes(t *testing.T) {
	m := mixer.Mixer(8)
	for range 2000 {
		f := 8 + int(m.Next()%25)
		r := int64(m.Next()%(1<<24)>>(m.Next()%24)) << (f / 2)
		// The root is r just if its square over 2^f is a word.
		square := new(big.Int).Mul(big.NewInt(r), big.NewInt(r))
		a, rest := new(big.Int).DivMod(square, power(f), new(big.Int))
		if rest.Sign() != 0 || a.Cmp(big.NewInt(most)) > 0 {
			continue
		}
		for k := 0; a.Int64() <= most>>(2*k); k++ {
			got, e := root.Sqrt(a.Int64()<<(2*k), f)
			same(t, "Sqrt", a.Int64()<<(2*k), f, got, e, r<<k, api.OK)
			if a.Sign() == 0 {
				break
			}
		}
	}
}
