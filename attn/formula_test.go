package attn_test

import (
	"math/big"
	"slices"
	"testing"

	"ratchet/api"
	"ratchet/sample"
	"ratchet/soft"
)

// What the chapter's formulas tell, word by word in whole numbers of any size; of soft only rows that nothing is left out of are asked.

// rounded is n / 2^f, rounded to the nearest, halves to even.
func rounded(n *big.Int, f int) *big.Int {
	one := big.NewInt(1)
	twice := new(big.Int).Lsh(n, 1)
	up, rest := new(big.Int).DivMod(twice.Add(twice, new(big.Int).Lsh(one, uint(f))), new(big.Int).Lsh(one, uint(f+1)), new(big.Int))
	if rest.Sign() == 0 && up.Bit(0) == 1 {
		up.Sub(up, one)
	}
	return up
}

// matrix is the one of s's shape whose words are sums of products over 2^f.
func matrix(s []int, depth, f int, left, right func(at, k int) int64) (api.Tensor, api.Errno) {
	told := api.Tensor{Shape: s}
	if sample.Count(s) > api.MaxElems {
		return api.Tensor{}, api.ErrBudget
	}
	for n := range sample.Count(s) {
		sum := new(big.Int)
		for k := range depth {
			sum.Add(sum, new(big.Int).Mul(big.NewInt(left(n/s[1], k)), big.NewInt(right(n%s[1], k))))
		}
		word := rounded(sum, f)
		if word.CmpAbs(big.NewInt(most)) > 0 {
			return api.Tensor{}, api.ErrOver
		}
		told.Data = append(told.Data, word.Int64())
	}
	return told, api.OK
}

func rowsWords(a api.Tensor) func(at, k int) int64 {
	return func(at, k int) int64 { return a.Data[at*a.Shape[1]+k] }
}

func columnsWords(a api.Tensor) func(at, k int) int64 {
	return func(at, k int) int64 { return a.Data[k*a.Shape[1]+at] }
}

func product(a, b api.Tensor, f int) (api.Tensor, api.Errno) {
	return matrix([]int{a.Shape[0], b.Shape[1]}, a.Shape[1], f, rowsWords(a), columnsWords(b))
}

// overRoot is the greatest c that is at most a half above 2^f over the root of d. No half is told: d would be 4^(f+1).
func overRoot(d, f int) int64 {
	c, limit := int64(0), new(big.Int).Lsh(big.NewInt(4), uint(2*f))
	for bit := int64(1) << f; bit > 0; bit >>= 1 {
		square := new(big.Int).Mul(big.NewInt(2*(c+bit)-1), big.NewInt(2*(c+bit)-1))
		if square.Mul(square, big.NewInt(int64(d))).Cmp(limit) <= 0 {
			c += bit
		}
	}
	return c
}

// sharesOf are the shares of those words of a row alone that a mask allows, and 0 else.
func sharesOf(t *testing.T, words []int64, mask []int, f int) []int64 {
	t.Helper()
	var allowed []int64
	for n, a := range words {
		if mask[n] != 0 {
			allowed = append(allowed, a)
		}
	}
	shares, e := soft.Softmax(row(allowed...), f)
	if e != api.OK {
		t.Fatalf("Softmax of %v, %d: %v", allowed, f, e)
	}
	list := make([]int64, len(words))
	for n := range words {
		if mask[n] != 0 {
			list[n], shares.Data = shares.Data[0], shares.Data[1:]
		}
	}
	return list
}

func head(t *testing.T, q, k, v api.Tensor, mask []int, f int) (api.Tensor, api.Errno) {
	t.Helper()
	products, e := matrix([]int{q.Shape[0], k.Shape[0]}, q.Shape[1], f, rowsWords(q), rowsWords(k))
	if e != api.OK {
		return api.Tensor{}, e
	}
	scale, length := overRoot(q.Shape[1], f), k.Shape[0]
	shares := api.Tensor{Shape: products.Shape}
	for from := 0; from < len(products.Data); from += length {
		var words []int64
		for _, a := range products.Data[from : from+length] {
			words = append(words, rounded(new(big.Int).Mul(big.NewInt(a), big.NewInt(scale)), f).Int64())
		}
		shares.Data = append(shares.Data, sharesOf(t, words, mask[from:from+length], f)...)
	}
	return product(shares, v, f)
}

// columns are some of a matrix, from one on.
func columns(a api.Tensor, from, many int) api.Tensor {
	part := api.Tensor{Shape: []int{a.Shape[0], many}}
	for words := range slices.Chunk(a.Data, a.Shape[1]) {
		part.Data = append(part.Data, words[from:from+many]...)
	}
	return part
}

func attend(t *testing.T, a attention, f int) (api.Tensor, api.Errno) {
	t.Helper()
	var sides [3]api.Tensor
	for n, w := range a.w[:3] {
		side, e := product(a.x, w, f)
		if e != api.OK {
			return api.Tensor{}, e
		}
		sides[n] = side
	}
	d := a.x.Shape[1]
	all, many := sample.Filled(a.x.Shape, 0), d/a.heads
	for h := range a.heads {
		one, e := head(t, columns(sides[0], h*many, many), columns(sides[1], h*many, many), columns(sides[2], h*many, many), a.mask, f)
		if e != api.OK {
			return api.Tensor{}, e
		}
		for n, v := range one.Data {
			all.Data[n/many*d+h*many+n%many] = v
		}
	}
	return product(all, a.w[3], f)
}
