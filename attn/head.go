package attn

import (
	"iter"
	"slices"

	"ratchet/api"
	"ratchet/elem"
	"ratchet/fx"
	"ratchet/matmul"
	"ratchet/root"
	"ratchet/view"
)

// scores are what q's rows and k's have in common: their products, over the root of how many words each has.
func scores(q, k api.Tensor, f int) (api.Tensor, api.Errno) {
	scale, e := overRoot(q.Shape[1], f)
	if e != api.OK {
		return api.Tensor{}, e
	}
	columns, e := matmul.Turn(k)
	if e != api.OK {
		return api.Tensor{}, e
	}
	products, e := matmul.Mul(q, columns, f)
	if e != api.OK {
		return api.Tensor{}, e
	}
	return elem.One(api.OpScale, products, scale, f)
}

func overRoot(n, f int) (int64, api.Errno) {
	word, e := fx.Ratio(int64(n), 1, f)
	if e != api.OK {
		return 0, e
	}
	return root.Rsqrt(word, f)
}

// sideBySide is what all heads tell, each laid where its columns were taken from: for v has as many as q and k.
func sideBySide(q, k, v api.Tensor, heads int, mask []int, f int) (api.Tensor, api.Errno) {
	told := api.Tensor{Shape: slices.Clone(v.Shape), Data: make([]int64, len(v.Data))}
	for columns := range viewsOf(v.Shape, heads) {
		// The views are of these matrices' words, so that they are copied and laid without an error.
		a, _ := view.Copy(columns, q.Data)
		b, _ := view.Copy(columns, k.Data)
		c, _ := view.Copy(columns, v.Data)
		one, e := Head(a, b, c, mask, f)
		if e != api.OK {
			return api.Tensor{}, e
		}
		told.Data, _ = view.Lay(columns, one, told.Data)
	}
	return told, api.OK
}

// viewsOf are of a matrix's columns, cut into as many equal parts as there are heads, in order.
func viewsOf(s []int, heads int) iter.Seq[api.View] {
	return func(yield func(api.View) bool) {
		whole, _ := view.Of(s)
		many := s[1] / heads
		for h := range heads {
			part, _ := view.Slice(whole, 1, h*many, (h+1)*many)
			if !yield(part) {
				return
			}
		}
	}
}
