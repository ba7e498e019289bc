package sample_test

import (
	"slices"
	"testing"

	"ratchet/sample"
)

func TestPlaces(t *testing.T) {
	for _, c := range []struct{ length, kernel, stride, pad, dilation, want int }{
		{4, 2, 1, 0, 1, 3}, {4, 2, 1, 1, 1, 5}, {4, 2, 2, 0, 1, 2}, {4, 4, 1, 0, 1, 1}, {4, 5, 1, 0, 1, 0}, {5, 3, 1, 0, 2, 1}, {5, 3, 1, 1, 2, 3}, {5, 2, 2, 0, 1, 2}, {6, 2, 2, 0, 1, 3}, {1, 1, 4096, 0, 1, 1},
	} {
		one := sample.Places([]int{c.length}, []int{c.kernel}, sample.Line(c.stride, c.pad, c.dilation))
		two := sample.Places([]int{c.length, c.length}, []int{c.kernel, c.kernel}, sample.Plane(c.stride, c.pad, c.dilation))
		if !slices.Equal(one, []int{c.want}) || !slices.Equal(two, []int{c.want, c.want}) {
			t.Errorf("%v: %v, %v", c, one, two)
		}
	}
}

func TestStands(t *testing.T) {
	c := sample.PlaneOf([]int{2, 1}, []int{1, 0}, []int{1, 3})
	for _, at := range []struct {
		place, tap, want []int
		within           bool
	}{
		{[]int{0, 0}, []int{0, 0}, []int{-1, 0}, false}, {[]int{0, 0}, []int{1, 0}, []int{0, 0}, true}, {[]int{1, 2}, []int{0, 1}, []int{1, 5}, true}, {[]int{1, 3}, []int{0, 1}, []int{1, 6}, false}, {[]int{2, 1}, []int{1, 0}, []int{4, 1}, false},
	} {
		if got, within := sample.Stands([]int{4, 6}, at.place, at.tap, c); !slices.Equal(got, at.want) || within != at.within {
			t.Errorf("%v: %v, %v", at, got, within)
		}
	}
}

func TestGoingsGoTogether(t *testing.T) {
	for _, g := range sample.Goings() {
		spatial := len(g.X) - 2
		if len(g.W) != len(g.X) || g.W[1] != g.X[1] || len(g.C.Stride) != spatial || len(g.C.Pad) != spatial || len(g.C.Dilation) != spatial || slices.Contains(sample.Places(g.X[2:], g.W[2:], g.C), 0) {
			t.Errorf("%v", g)
		}
	}
}
