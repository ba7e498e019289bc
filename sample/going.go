package sample

import (
	"math"

	"ratchet/api"
)

// Line is the numbers of one spatial dimension.
func Line(stride, pad, dilation int) api.Conv {
	return api.Conv{Stride: []int{stride}, Pad: []int{pad}, Dilation: []int{dilation}}
}

// Plane is those of two, the same ones.
func Plane(stride, pad, dilation int) api.Conv {
	return api.Conv{Stride: []int{stride, stride}, Pad: []int{pad, pad}, Dilation: []int{dilation, dilation}}
}

func PlaneOf(stride, pad, dilation []int) api.Conv {
	return api.Conv{Stride: stride, Pad: pad, Dilation: dilation}
}

// A Going is a shape X that a kernel of the shape W goes over, by the numbers C.
type Going struct {
	X, W []int
	C    api.Conv
}

func Goings() []Going { return append(lines(), planes()...) }

func lines() []Going {
	return []Going{
		{[]int{1, 1, 4}, []int{1, 1, 2}, Line(1, 0, 1)}, {[]int{1, 1, 4}, []int{1, 1, 2}, Line(1, 1, 1)}, {[]int{1, 1, 4}, []int{1, 1, 2}, Line(2, 0, 1)},
		{[]int{1, 2, 4}, []int{1, 2, 3}, Line(1, 1, 1)}, {[]int{1, 1, 4}, []int{3, 1, 3}, Line(1, 1, 1)}, {[]int{3, 1, 4}, []int{1, 1, 3}, Line(1, 1, 1)}, {[]int{2, 3, 5}, []int{4, 3, 2}, Line(1, 0, 1)}, {[]int{3, 2, 5}, []int{2, 2, 3}, Line(2, 2, 1)}, // channels, kernels, examples
		{[]int{1, 1, 5}, []int{1, 1, 1}, Line(1, 0, 1)}, {[]int{2, 3, 5}, []int{2, 3, 1}, Line(1, 2, 1)}, {[]int{1, 1, 1}, []int{1, 1, 1}, Line(1, 0, 1)}, {[]int{2, 2, 4}, []int{3, 2, 1}, Line(3, 1, 7)}, // of one tap
		{[]int{1, 1, 4}, []int{1, 1, 4}, Line(1, 0, 1)}, {[]int{2, 2, 3}, []int{2, 2, 7}, Line(1, 2, 1)}, {[]int{1, 1, 1}, []int{1, 1, 5}, Line(4, 2, 1)}, {[]int{1, 2, 5}, []int{1, 2, 4}, Line(2, 1, 2)}, // as long as the padded row
		{[]int{1, 1, 9}, []int{1, 1, 2}, Line(4, 0, 1)}, {[]int{2, 2, 8}, []int{2, 2, 1}, Line(3, 0, 1)}, {[]int{1, 2, 5}, []int{2, 2, 2}, Line(5, 2, 1)}, {[]int{1, 1, 3}, []int{1, 1, 2}, Line(4096, 0, 1)}, // strides above the kernel
		{[]int{1, 1, 2}, []int{1, 1, 3}, Line(1, 5, 1)}, {[]int{2, 2, 1}, []int{2, 2, 2}, Line(1, 4, 1)}, {[]int{1, 2, 3}, []int{2, 2, 2}, Line(3, 7, 2)}, {[]int{1, 1, 1}, []int{1, 1, 1}, Line(2, 3, 1)}, {[]int{1, 1, 1}, []int{1, 1, 2}, Line(4096, 4096, 1)}, // pads above the row
		{[]int{1, 1, 6}, []int{1, 1, 2}, Line(1, 0, 3)}, {[]int{2, 2, 7}, []int{2, 2, 3}, Line(1, 1, 2)}, {[]int{1, 2, 5}, []int{2, 2, 3}, Line(2, 4, 4)}, {[]int{1, 1, 1}, []int{1, 1, 3}, Line(1, 4096, 4096)}, // dilations
		{[]int{1, 1, 6}, []int{1, 1, 2}, Line(3, 0, 1)}, {[]int{1, 2, 7}, []int{2, 2, 3}, Line(3, 0, 1)}, {[]int{2, 1, 6}, []int{1, 1, 3}, Line(2, 0, 1)}, {[]int{1, 1, 5}, []int{1, 1, 2}, Line(2, 1, 2)}, // a last place that a stride leaves out
	}
}

func planes() []Going {
	return []Going{
		{[]int{1, 1, 3, 4}, []int{1, 1, 2, 2}, Plane(1, 0, 1)}, {[]int{1, 1, 3, 4}, []int{1, 1, 2, 3}, Plane(1, 1, 1)}, {[]int{1, 1, 4, 3}, []int{1, 1, 3, 2}, Plane(2, 1, 1)},
		{[]int{1, 2, 3, 3}, []int{1, 2, 2, 2}, Plane(1, 0, 1)}, {[]int{1, 1, 3, 3}, []int{3, 1, 2, 2}, Plane(1, 0, 1)}, {[]int{3, 1, 3, 3}, []int{1, 1, 2, 2}, Plane(1, 0, 1)}, {[]int{2, 3, 3, 2}, []int{2, 3, 2, 1}, Plane(1, 1, 1)},
		{[]int{1, 1, 3, 2}, []int{1, 1, 1, 1}, Plane(1, 0, 1)}, {[]int{2, 2, 2, 3}, []int{2, 2, 1, 1}, Plane(2, 1, 5)}, {[]int{1, 1, 1, 1}, []int{1, 1, 1, 1}, Plane(1, 0, 1)},
		{[]int{1, 1, 3, 4}, []int{1, 1, 3, 4}, Plane(1, 0, 1)}, {[]int{1, 2, 2, 3}, []int{2, 2, 4, 5}, Plane(1, 1, 1)}, {[]int{1, 1, 2, 3}, []int{1, 1, 2, 1}, Plane(1, 0, 1)},
		{[]int{1, 1, 5, 4}, []int{1, 1, 2, 1}, Plane(3, 0, 1)}, {[]int{1, 2, 5, 6}, []int{2, 2, 1, 2}, PlaneOf([]int{2, 3}, []int{0, 1}, []int{1, 1})},
		{[]int{1, 1, 1, 2}, []int{1, 1, 2, 2}, Plane(1, 3, 1)}, {[]int{2, 2, 2, 1}, []int{1, 2, 2, 2}, PlaneOf([]int{1, 2}, []int{3, 2}, []int{1, 1})}, {[]int{1, 1, 2, 2}, []int{1, 1, 1, 2}, PlaneOf([]int{1, 1}, []int{4, 0}, []int{1, 1})}, {[]int{1, 1, 2, 2}, []int{1, 1, 2, 1}, PlaneOf([]int{1, 1}, []int{0, 4}, []int{1, 1})},
		{[]int{1, 1, 5, 6}, []int{1, 1, 2, 3}, Plane(1, 0, 2)}, {[]int{1, 2, 4, 3}, []int{2, 2, 2, 2}, PlaneOf([]int{2, 1}, []int{1, 2}, []int{3, 2})}, {[]int{1, 1, 1, 1}, []int{1, 1, 3, 3}, Plane(1, 4096, 4096)},
		{[]int{1, 1, 4, 4}, []int{1, 1, 1, 2}, PlaneOf([]int{3, 1}, []int{0, 0}, []int{1, 1})}, {[]int{1, 1, 6, 5}, []int{1, 1, 2, 2}, PlaneOf([]int{3, 2}, []int{0, 0}, []int{2, 1})}, {[]int{2, 1, 5, 1}, []int{1, 1, 2, 1}, PlaneOf([]int{2, 4096}, []int{0, 0}, []int{1, 1})},
	}
}

// Places are as many along each dimension as there are with the last tap not behind the pad.
func Places(l, k []int, c api.Conv) []int {
	var list []int
	for d := range l {
		n := 0
		for n*c.Stride[d]+(k[d]-1)*c.Dilation[d]-c.Pad[d] < l[d]+c.Pad[d] {
			n++
		}
		list = append(list, n)
	}
	return list
}

// Stands is where a tap does at a place, and whether that is within.
func Stands(l, place, tap []int, c api.Conv) ([]int, bool) {
	var where []int
	within := true
	for d := range l {
		x := place[d]*c.Stride[d] + tap[d]*c.Dilation[d] - c.Pad[d]
		where, within = append(where, x), within && 0 <= x && x < l[d]
	}
	return where, within
}

// NoNumbers are a convolution's, or but for Kernel a pool's, except for one thing.
func NoNumbers() []api.Conv {
	one, none, ones, nones := []int{1}, []int{0}, []int{1, 1}, []int{0, 0}
	list := []api.Conv{
		{}, {Stride: []int{}, Pad: []int{}, Dilation: []int{}}, PlaneOf(nil, none, one), PlaneOf(one, nil, one), PlaneOf(one, none, nil), PlaneOf(nil, nones, ones), PlaneOf(ones, nil, ones), PlaneOf(ones, nones, nil),
		PlaneOf(ones, none, one), PlaneOf(one, nones, one), PlaneOf(one, none, ones), PlaneOf(one, nones, ones), PlaneOf(ones, none, ones), PlaneOf(ones, nones, one),
		PlaneOf([]int{1, 1, 1}, []int{0, 0, 0}, []int{1, 1, 1}), PlaneOf([]int{1, 1, 1}, nones, ones), PlaneOf(ones, []int{0, 0, 0}, ones), PlaneOf(ones, nones, []int{1, 1, 1}), PlaneOf([]int{1, 1, 1, 1}, []int{0, 0, 0, 0}, []int{1, 1, 1, 1}),
	}
	for _, v := range []int{0, -1, 4097, math.MinInt, math.MaxInt} {
		list = append(list, Line(v, 0, 1), Line(1, 0, v), PlaneOf([]int{v, 1}, nones, ones), PlaneOf([]int{1, v}, nones, ones), PlaneOf(ones, nones, []int{v, 1}), PlaneOf(ones, nones, []int{1, v}))
		if v != 0 {
			list = append(list, Line(1, v, 1), PlaneOf(ones, []int{v, 0}, ones), PlaneOf(ones, []int{0, v}, ones))
		}
	}
	return list
}
