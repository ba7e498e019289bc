package norm_test

import (
	"math/big"
	"slices"
	"testing"
)

func whole(n int64) *big.Rat { return new(big.Rat).SetInt64(n) }

func number(a int64, f int) *big.Rat { return new(big.Rat).SetFrac64(a, 1<<f) }

func less(a, b *big.Rat) *big.Rat { return new(big.Rat).Sub(a, b) }

func squareOf(x *big.Rat) *big.Rat { return new(big.Rat).Mul(x, x) }

// nearest is R of the number of this sign and this square: its double's root, rounded down, is even where the number lies behind no half, and odd where it lies behind one, or just there.
func nearest(sign int, square *big.Rat) int64 {
	double := new(big.Rat).Mul(square, whole(4))
	root := new(big.Int).Div(double.Num(), double.Denom())
	root.Sqrt(root)
	just := squareOf(new(big.Rat).SetInt(root)).Cmp(double) == 0
	k := root.Int64() / 2
	if root.Bit(0) == 1 && (!just || k%2 == 1) {
		k++
	}
	return int64(sign) * k
}

// normed is what the chapter says of one row, word for word.
func normed(words []int64, eps int64, f int) []int64 {
	n := whole(int64(len(words)))
	m := new(big.Rat)
	for _, a := range words {
		m.Add(m, number(a, f))
	}
	m.Quo(m, n)
	v := new(big.Rat)
	for _, a := range words {
		v.Add(v, squareOf(less(number(a, f), m)))
	}
	v.Quo(v, n)
	below := v.Add(v, number(eps, f))
	below.Quo(below, squareOf(whole(1<<f)))
	var list []int64
	for _, a := range words {
		off := less(number(a, f), m)
		list = append(list, nearest(off.Sign(), new(big.Rat).Quo(squareOf(off), below)))
	}
	return list
}

// tied is a row of 16 words that are together 0, of which the first one is to be told as k and a half, the second one as the opposite: the first one is (2 k + 1) scale, and all squares and 16 eps 2^f are together the square of 2^(f + 3) scale.
// The other words are opposites too, which have what is left of the squares. Where there is nothing left there is no such row.
func tied(t *testing.T, f int, k, scale, eps int64) ([]int64, bool) {
	t.Helper()
	first := (2*k + 1) * scale
	rest := new(big.Int).Lsh(big.NewInt(scale), uint(f+3))
	rest.Mul(rest, rest)
	rest.Sub(rest, new(big.Int).Lsh(big.NewInt(eps), uint(f+4)))
	rest.Rsh(rest, 1)
	rest.Sub(rest, new(big.Int).Mul(big.NewInt(first), big.NewInt(first)))
	if rest.Sign() < 0 {
		return nil, false
	}
	words := []int64{first, -first}
	for _, a := range sevenSquares(t, rest) {
		words = append(words, a, -a)
	}
	return words, true
}

// sevenSquares takes the greatest roots three times, and then, as little is left, looks for four: each number is the sum of four squares.
func sevenSquares(t *testing.T, sum *big.Int) []int64 {
	t.Helper()
	var list []int64
	rest := new(big.Int).Set(sum)
	for range 3 {
		root := new(big.Int).Sqrt(rest)
		list = append(list, root.Int64())
		rest.Sub(rest, root.Mul(root, root))
	}
	if rest.BitLen() > 16 {
		t.Fatalf("of %v is left %v", sum, rest)
	}
	return append(list, squares(rest.Int64(), 4)...)
}

// squares are so many numbers that have this sum of squares, or none.
func squares(sum int64, many int) []int64 {
	if many == 0 {
		return nil
	}
	for a := new(big.Int).Sqrt(big.NewInt(sum)).Int64(); a >= 0; a-- {
		if list := append(squares(sum-a*a, many-1), a); len(list) == many && squareSum(list) == sum {
			return list
		}
	}
	return nil
}

func squareSum(list []int64) int64 {
	sum := int64(0)
	for _, a := range list {
		sum += a * a
	}
	return sum
}

// leastOf is where the least word above 0 stands, behind the first one; its opposite stands next to it.
func leastOf(words []int64) int {
	least := 2
	for n := 2; n < len(words); n += 2 {
		if words[n] > 0 && words[n] < words[least] {
			least = n
		}
	}
	return least
}

// opened has the opposites at n further apart by so much each.
func opened(words []int64, n int, by int64) []int64 {
	list := slices.Clone(words)
	list[n] += by
	list[n+1] -= by
	return list
}
