package view_test

import (
	"math"
	"slices"
	"testing"

	"ratchet/api"
	"ratchet/mixer"
	"ratchet/shape"
	"ratchet/view"
)

const most = 65536 // words that a view may be of

func of(s, strides []int, off int) api.View {
	return api.View{Shape: s, Strides: strides, Off: off}
}

// small are all shapes of dimensions up to high, of ranks up to rank.
func small(high, rank int) [][]int {
	list := [][]int{nil}
	last := list
	for range rank {
		var longer [][]int
		for _, s := range last {
			for d := 1; d <= high; d++ {
				longer = append(longer, append(slices.Clone(s), d))
			}
		}
		list = append(list, longer...)
		last = longer
	}
	return list
}

func shapes() [][]int {
	return append(small(3, 4), []int{4096}, []int{4095}, []int{4096, 16}, []int{16, 4096}, []int{256, 256}, []int{1, 16, 1, 4096}, []int{16, 16, 16, 16}, []int{3, 7, 11, 13}, []int{1, 1, 1, 4096})
}

func noShapes() [][]int {
	return [][]int{{0}, {-1}, {4097}, {math.MaxInt}, {math.MinInt}, {2, 0}, {0, 2}, {-1, -1}, {-2, -3}, {4096, 17}, {257, 256}, {4096, 4096, 4096, 4096}, {1 << 32, 1 << 32}, {1, 1, 1, 1, 1}, {2, 1, 1, 1, 1, 1}, make([]int, 5)}
}

// productsBehind are the strides of a shape by their definition.
func productsBehind(s []int) []int {
	list := make([]int, len(s))
	for k := range s {
		list[k] = 1
		for _, d := range s[k+1:] {
			list[k] *= d
		}
	}
	return list
}

// placesOf are where the indexes of v stand, the last number running fastest.
func placesOf(v api.View) []int {
	list := []int{v.Off}
	for k, d := range v.Shape {
		var longer []int
		for _, at := range list {
			for x := range d {
				longer = append(longer, at+x*v.Strides[k])
			}
		}
		list = longer
	}
	return list
}

func placeOf(v api.View, i []int) int {
	at := v.Off
	for k, x := range i {
		at += x * v.Strides[k]
	}
	return at
}

// views are some of MaxElems words, of all ranks: plain ones, and ones with strides in any order, of 0 and of MaxElems, that skip words, that meet themselves.
func views() []api.View {
	list := []api.View{
		{}, of([]int{}, []int{}, 5), of(nil, nil, most-1),
		of([]int{1}, []int{most}, 0), of([]int{1}, []int{most}, most-1), of([]int{1}, []int{0}, 3), of([]int{1}, []int{7}, 3),
		of([]int{4096}, []int{0}, most-1), of([]int{4096}, []int{16}, 15), of([]int{2}, []int{most - 1}, 0),
		of([]int{3, 4}, []int{1, 3}, 2), of([]int{3, 4}, []int{5, 1}, 0), of([]int{3, 4}, []int{1, 1}, 9), of([]int{3, 1}, []int{4, 9}, 1), of([]int{1, 3}, []int{9, 2}, 0), of([]int{4, 3}, []int{0, 1}, 4), of([]int{4, 3}, []int{1, 0}, 4),
		of([]int{2, 3, 4}, []int{1, 8, 2}, 3), of([]int{2, 1, 4}, []int{4, most, 1}, 0), of([]int{2, 1, 4}, []int{4, 0, 1}, 6), of([]int{1, 1, 1}, []int{5, 6, 7}, 1),
		of([]int{2, 3, 1, 2}, []int{1, 4, 11, 2}, 8), of([]int{2, 2, 2, 2}, []int{1, 2, 4, 8}, 0), of([]int{2, 2, 2, 2}, []int{0, 1, 0, 2}, 1), of([]int{1, 1, 1, 1}, []int{most, most, most, most}, 0),
		of([]int{256, 256}, []int{1, 256}, 0), of([]int{16, 4096}, []int{0, 1}, 100),
	}
	for _, s := range [][]int{{1}, {5}, {2, 3}, {3, 1}, {1, 3}, {2, 3, 4}, {2, 1, 2}, {2, 3, 1, 2}, {4096, 16}} {
		list = append(list, of(s, productsBehind(s), 0), of(s, productsBehind(s), 6))
	}
	return slices.DeleteFunc(list, func(v api.View) bool { return slices.Max(placesOf(v)) >= most })
}

// noViews are views of MaxElems words but for one thing, shapes, strides or offsets.
func noViews() []api.View {
	list := []api.View{
		of(nil, nil, -1), of(nil, nil, most), of(nil, nil, math.MaxInt), of(nil, nil, math.MinInt),
		of(nil, []int{1}, 0), of(nil, []int{0}, 0), of([]int{1}, nil, 0), of([]int{2}, []int{1, 1}, 0), of([]int{2, 3}, []int{3}, 0), of([]int{2, 3}, []int{3, 1, 1}, 0), of([]int{2, 3}, make([]int, 4096), 0),
		of([]int{2}, []int{1}, -1), of([]int{4096}, []int{1}, -1), of([]int{2}, []int{1}, most-1), of([]int{2}, []int{1}, most), of([]int{2}, []int{0}, most), of([]int{2}, []int{0}, -1),
		of([]int{2}, []int{most}, 0), of([]int{2}, []int{most - 1}, 1), of([]int{4096}, []int{17}, 0), of([]int{4096, 16}, []int{16, 1}, 1), of([]int{4096, 16}, []int{16, 2}, 0), of([]int{16, 16, 16, 16}, []int{4096, 256, 16, 1}, 1), of([]int{4096, 2}, []int{0, most}, 0),
		of([]int{2}, []int{1}, math.MaxInt), of([]int{2}, []int{1}, math.MinInt), of([]int{3}, []int{most}, math.MaxInt), of([]int{2, 2}, []int{-1, 1}, 1), of([]int{2, 2}, []int{1, -1}, 1),
	}
	for _, stride := range []int{-1, -2, -most, most + 1, 1 << 31, 1 << 32, 1 << 52, 1 << 62, math.MaxInt, math.MinInt} { // some of which are no way at all, cut to 64 bits
		for _, d := range []int{1, 2, 3, 5, 4096} {
			list = append(list, of([]int{d}, []int{stride}, 0), of([]int{d}, []int{stride}, 7), of([]int{2, d}, []int{0, stride}, 9), of([]int{d, 2}, []int{stride, 1}, 9), of([]int{1, 1, d, 1}, []int{0, 0, stride, 0}, most-1))
		}
	}
	for _, s := range noShapes() {
		list = append(list, of(s, make([]int, len(s)), 0), of(s, productsBehind(s), 0), of(s, nil, 0), of(s, []int{1}, 0))
	}
	return list
}

// words are n of them, no two alike.
func words(n int) []int64 {
	list := make([]int64, n)
	for k := range list {
		list[k] = int64(k*k) - 1000
	}
	return list
}

func sameView(a, b api.View) bool {
	return a.Off == b.Off && slices.Equal(a.Shape, b.Shape) && slices.Equal(a.Strides, b.Strides)
}

func isZero(v api.View) bool { return v.Shape == nil && v.Strides == nil && v.Off == 0 }

func checkIs(t *testing.T, v api.View, n int, want api.Errno) {
	t.Helper()
	if e := view.Check(v, n); e != want {
		t.Errorf("Check(%v, %d): %v; want %v", v, n, e, want)
	}
}

// viewIs takes what is told with an error for the zero value alone, and what is told without for a view.
func viewIs(t *testing.T, what string, from api.View, numbers []int, got api.View, e api.Errno, want api.View, wantE api.Errno) {
	t.Helper()
	if e != wantE || !sameView(got, want) || e != api.OK && !isZero(got) {
		t.Errorf("%s of %v by %v: %v, %v; want %v, %v", what, from, numbers, got, e, want, wantE)
	}
	if e == api.OK {
		checkIs(t, got, most, api.OK)
	}
}

func ofIs(t *testing.T, s []int, want api.View, wantE api.Errno) {
	t.Helper()
	got, e := view.Of(s)
	viewIs(t, "Of", api.View{}, s, got, e, want, wantE)
}

func transposeIs(t *testing.T, v api.View, axes []int, want api.View, wantE api.Errno) {
	t.Helper()
	got, e := view.Transpose(v, axes)
	viewIs(t, "Transpose", v, axes, got, e, want, wantE)
}

func sliceIs(t *testing.T, v api.View, axis, from, to int, want api.View, wantE api.Errno) {
	t.Helper()
	got, e := view.Slice(v, axis, from, to)
	viewIs(t, "Slice", v, []int{axis, from, to}, got, e, want, wantE)
}

func widenIs(t *testing.T, v api.View, s []int, want api.View, wantE api.Errno) {
	t.Helper()
	got, e := view.Widen(v, s)
	viewIs(t, "Widen", v, s, got, e, want, wantE)
}

func reshapeIs(t *testing.T, v api.View, s []int, want api.View, wantE api.Errno) {
	t.Helper()
	got, e := view.Reshape(v, s)
	viewIs(t, "Reshape", v, s, got, e, want, wantE)
}

func copyIs(t *testing.T, v api.View, data []int64, want api.Tensor, wantE api.Errno) {
	t.Helper()
	got, e := view.Copy(v, data)
	if e != wantE || !slices.Equal(got.Shape, want.Shape) || !slices.Equal(got.Data, want.Data) || e != api.OK && (got.Shape != nil || got.Data != nil) {
		t.Errorf("Copy of %v from %d words: %v, %v; want %v, %v", v, len(data), got, e, want, wantE)
	}
}

func layIs(t *testing.T, v api.View, from api.Tensor, data []int64, want []int64, wantE api.Errno) {
	t.Helper()
	got, e := view.Lay(v, from, data)
	if e != wantE || !slices.Equal(got, want) || e != api.OK && got != nil {
		t.Errorf("Lay of %v, %v on %d words: %v, %v; want %v, %v", v, from, len(data), got, e, want, wantE)
	}
}

// P7.1

// isView goes by the definition: each index asked one by one.
func isView(v api.View, n int) bool {
	return n <= most && v.Off >= 0 && slices.Min(append(slices.Clone(v.Strides), 0)) == 0 && slices.Max(placesOf(v)) < n
}

func TestCheckOfSmallViews(t *testing.T) {
	for _, s := range small(3, 3) {
		for pick := range int(math.Pow(5, float64(len(s)))) {
			strides := make([]int, len(s))
			for k := range strides {
				strides[k] = []int{0, 1, 2, 5, -1}[pick%5]
				pick /= 5
			}
			for off := -2; off <= 3; off++ {
				for n := -1; n <= 20; n++ {
					want := api.OK
					if v := of(s, strides, off); !isView(v, n) {
						want = api.ErrForm
					}
					checkIs(t, of(s, strides, off), n, want)
				}
			}
		}
	}
}

func TestCheckOfTheEmptyShape(t *testing.T) {
	for _, s := range [][]int{nil, {}} {
		for _, strides := range [][]int{nil, {}} {
			checkIs(t, of(s, strides, 0), 1, api.OK)
			checkIs(t, of(s, strides, 0), 0, api.ErrForm)
			checkIs(t, of(s, strides, 1), 1, api.ErrForm)
			checkIs(t, of(s, strides, 1), 2, api.OK)
		}
	}
}

func TestCheckAtTheLastWord(t *testing.T) {
	for _, v := range views() {
		last := slices.Max(placesOf(v))
		checkIs(t, v, last+1, api.OK)
		checkIs(t, v, last, api.ErrForm)
		checkIs(t, v, most, api.OK)
	}
}

func TestCheckOfHowManyWords(t *testing.T) {
	for _, v := range views() {
		for _, n := range []int{0, -1, -most, most + 1, 2 * most, 1 << 32, math.MaxInt, math.MinInt} {
			checkIs(t, v, n, api.ErrForm)
		}
	}
}

func TestCheckOfNoViews(t *testing.T) {
	for _, v := range noViews() {
		for _, n := range []int{most, most + 1, 1, 0, -1, math.MaxInt, math.MinInt} {
			checkIs(t, v, n, api.ErrForm)
		}
	}
}

func TestCheckOfAnyViews(t *testing.T) {
	m := mixer.Mixer(71)
	for range 100000 {
		s := make([]int, m.Below(5))
		strides := make([]int, len(s))
		for k := range s {
			s[k], strides[k] = 1+m.Below(5), m.Below(1<<(1+m.Below(15)))
		}
		v := of(s, strides, m.Below(1<<(1+m.Below(16))))
		last := slices.Max(placesOf(v))
		want := api.OK
		if last >= most {
			want = api.ErrForm
		}
		checkIs(t, v, most, want)
		checkIs(t, v, last+1, want)
		checkIs(t, v, last, api.ErrForm)
	}
}

func TestOf(t *testing.T) {
	for _, s := range shapes() {
		ofIs(t, s, of(s, productsBehind(s), 0), api.OK)
		count, _ := shape.Count(s)
		v, _ := view.Of(s)
		checkIs(t, v, count, api.OK)
		checkIs(t, v, count-1, api.ErrForm)
	}
	ofIs(t, []int{2, 3}, of([]int{2, 3}, []int{3, 1}, 0), api.OK)
	ofIs(t, nil, api.View{}, api.OK)
	for _, s := range noShapes() {
		ofIs(t, s, api.View{}, api.ErrForm)
	}
}

func TestNoViewsAreToldFirst(t *testing.T) {
	for _, v := range noViews() {
		for _, s := range append(noShapes(), nil, []int{1}, []int{2, 3}, v.Shape) {
			transposeIs(t, v, s, api.View{}, api.ErrForm)
			widenIs(t, v, s, api.View{}, api.ErrForm)
			reshapeIs(t, v, s, api.View{}, api.ErrForm)
		}
		for axis := -1; axis <= 4; axis++ {
			sliceIs(t, v, axis, 0, 1, api.View{}, api.ErrForm)
			sliceIs(t, v, axis, 1, 0, api.View{}, api.ErrForm)
		}
		for _, data := range [][]int64{nil, words(1), words(100), words(most), words(most + 1)} {
			copyIs(t, v, data, api.Tensor{}, api.ErrForm)
			layIs(t, v, api.Tensor{Data: words(1)}, data, nil, api.ErrForm)
			layIs(t, v, api.Tensor{Shape: []int{3}, Data: words(3)}, data, nil, api.ErrForm)
		}
	}
}

// P7.2

// orders are all ways to put the numbers 0 to n - 1 one behind the other.
func orders(n int) [][]int {
	list := [][]int{nil}
	for x := range n {
		var longer [][]int
		for _, order := range list {
			for k := range x + 1 {
				longer = append(longer, slices.Insert(slices.Clone(order), k, x))
			}
		}
		list = longer
	}
	return list
}

func TestTranspose(t *testing.T) {
	for _, v := range views() {
		for _, axes := range orders(len(v.Shape)) {
			want := api.View{Off: v.Off}
			for _, axis := range axes {
				want.Shape = append(want.Shape, v.Shape[axis])
				want.Strides = append(want.Strides, v.Strides[axis])
			}
			transposeIs(t, v, axes, want, api.OK)
		}
	}
	transposeIs(t, of([]int{2, 3}, []int{3, 1}, 0), []int{1, 0}, of([]int{3, 2}, []int{1, 3}, 0), api.OK)
	transposeIs(t, of([]int{2, 3, 4}, []int{20, 30, 40}, 6), []int{2, 0, 1}, of([]int{4, 2, 3}, []int{40, 20, 30}, 6), api.OK)
}

func TestTransposeByNoAxes(t *testing.T) {
	for _, v := range views() {
		rank := len(v.Shape)
		for _, axes := range orders(rank) {
			transposeIs(t, v, append(slices.Clone(axes), rank), api.View{}, api.ErrShape)
			transposeIs(t, v, append(slices.Clone(axes), 0), api.View{}, api.ErrShape)
			for k := range axes {
				transposeIs(t, v, slices.Delete(slices.Clone(axes), k, k+1), api.View{}, api.ErrShape)
				for _, wrong := range []int{-1, rank, rank + 1, 1 << 32, math.MaxInt, math.MinInt, axes[(k+1)%rank]} {
					other := slices.Clone(axes)
					if other[k] = wrong; rank > 1 || wrong != axes[k] {
						transposeIs(t, v, other, api.View{}, api.ErrShape)
					}
				}
			}
		}
		transposeIs(t, v, make([]int, most), api.View{}, api.ErrShape)
	}
	transposeIs(t, of([]int{2, 3, 4}, []int{12, 4, 1}, 0), []int{0, 0, 2}, api.View{}, api.ErrShape)
	transposeIs(t, of([]int{2, 2}, []int{2, 1}, 0), []int{1, 1}, api.View{}, api.ErrShape)
}

func TestSlice(t *testing.T) {
	for _, v := range views() {
		for axis, d := range v.Shape {
			for _, from := range []int{0, 1, d / 2, d - 1} {
				for _, to := range []int{from + 1, from + 2, d - 1, d} {
					if from >= to || to > d {
						continue
					}
					want := of(slices.Clone(v.Shape), v.Strides, v.Off+from*v.Strides[axis])
					want.Shape[axis] = to - from
					sliceIs(t, v, axis, from, to, want, api.OK)
				}
			}
			sliceIs(t, v, axis, 0, d, v, api.OK)
		}
	}
	sliceIs(t, of([]int{2, 3}, []int{3, 1}, 0), 1, 1, 3, of([]int{2, 2}, []int{3, 1}, 1), api.OK)
	sliceIs(t, of([]int{2, 3}, []int{3, 1}, 0), 0, 1, 2, of([]int{1, 3}, []int{3, 1}, 3), api.OK)
	sliceIs(t, of([]int{4096, 16}, []int{16, 1}, 0), 0, 4095, 4096, of([]int{1, 16}, []int{16, 1}, most-16), api.OK)
	sliceIs(t, of([]int{1}, []int{most}, 4), 0, 0, 1, of([]int{1}, []int{most}, 4), api.OK)
}

func TestSliceOfNoAxisOrBounds(t *testing.T) {
	for _, v := range views() {
		for _, axis := range []int{-1, len(v.Shape), len(v.Shape) + 1, 1 << 32, math.MaxInt, math.MinInt} {
			sliceIs(t, v, axis, 0, 1, api.View{}, api.ErrShape)
		}
		for axis, d := range v.Shape {
			for _, b := range [][2]int{{0, 0}, {d, d}, {1, 0}, {d - 1, d - 1}, {d, d - 1}, {-1, 1}, {-1, 0}, {-2, -1}, {0, -1}, {0, d + 1}, {d, d + 1}, {d - 1, d + 1}, {math.MinInt, 1}, {0, math.MaxInt}, {math.MaxInt, math.MinInt}, {math.MinInt, math.MaxInt}, {0, math.MinInt}, {math.MaxInt, math.MaxInt}} {
				sliceIs(t, v, axis, b[0], b[1], api.View{}, api.ErrShape)
			}
		}
	}
}

// spreadsTo is whether s, filled up with ones ahead, is to but where it has 1.
func spreadsTo(s, to []int) bool {
	if len(s) > len(to) {
		return false
	}
	for k, d := range s {
		if d != 1 && d != to[len(to)-len(s)+k] {
			return false
		}
	}
	return true
}

func TestWiden(t *testing.T) {
	for _, v := range views() {
		for _, s := range append(shapes(), v.Shape, append([]int{1}, v.Shape...), append([]int{2}, v.Shape...), append([]int{3, 1}, v.Shape...)) {
			switch {
			case shape.Check(s) != api.OK:
				widenIs(t, v, s, api.View{}, api.ErrForm)
			case !spreadsTo(v.Shape, s):
				widenIs(t, v, s, api.View{}, api.ErrShape)
			default:
				want, added := of(s, make([]int, len(s)), v.Off), len(s)-len(v.Shape)
				for k, d := range v.Shape {
					if s[added+k] == d {
						want.Strides[added+k] = v.Strides[k]
					}
				}
				widenIs(t, v, s, want, api.OK)
			}
		}
	}
}

func TestWidenOfAxesThatAreAddedOrGrow(t *testing.T) {
	widenIs(t, of([]int{3}, []int{2}, 5), []int{4, 3}, of([]int{4, 3}, []int{0, 2}, 5), api.OK)
	widenIs(t, of([]int{3}, []int{2}, 5), []int{1, 3}, of([]int{1, 3}, []int{0, 2}, 5), api.OK)
	widenIs(t, of([]int{3, 1}, []int{2, 9}, 5), []int{3, 4}, of([]int{3, 4}, []int{2, 0}, 5), api.OK)
	widenIs(t, of([]int{3, 1}, []int{2, 9}, 5), []int{2, 3, 4}, of([]int{2, 3, 4}, []int{0, 2, 0}, 5), api.OK)
	widenIs(t, of([]int{3, 1}, []int{2, 9}, 5), []int{3, 1}, of([]int{3, 1}, []int{2, 9}, 5), api.OK) // it does not grow
	widenIs(t, of([]int{1}, []int{most}, 0), []int{4096, 1}, of([]int{4096, 1}, []int{0, most}, 0), api.OK)
	widenIs(t, api.View{Off: most - 1}, []int{16, 16, 16, 16}, of([]int{16, 16, 16, 16}, make([]int, 4), most-1), api.OK)
	widenIs(t, of([]int{4096}, []int{16}, 15), []int{16, 4096}, of([]int{16, 4096}, []int{0, 16}, 15), api.OK)
}

func TestWidenToWhatDoesNotFit(t *testing.T) {
	three := of([]int{3}, []int{1}, 0)
	for _, s := range [][]int{nil, {1}, {2}, {6}, {3, 1}, {3, 2}, {4096}} {
		widenIs(t, three, s, api.View{}, api.ErrShape)
	}
	widenIs(t, of([]int{1, 1}, []int{1, 1}, 0), []int{1}, api.View{}, api.ErrShape) // the spread has an axis more
	widenIs(t, of([]int{2, 3}, []int{3, 1}, 0), []int{3}, api.View{}, api.ErrShape)
	widenIs(t, of([]int{2, 3}, []int{3, 1}, 0), []int{2, 1}, api.View{}, api.ErrShape) // the spread is the view's own shape
	widenIs(t, of([]int{2, 3}, []int{3, 1}, 0), []int{1, 1}, api.View{}, api.ErrShape)
	widenIs(t, of([]int{4096, 1}, []int{1, 1}, 0), []int{4096}, api.View{}, api.ErrShape) // the spread is none
	for _, v := range views() {
		for _, s := range noShapes() {
			widenIs(t, v, s, api.View{}, api.ErrForm)
		}
	}
}

func TestReshape(t *testing.T) {
	list := append(shapes(), []int{6}, []int{12}, []int{2, 6}, []int{6, 2}, []int{4, 3})
	for _, a := range list {
		for _, b := range list {
			x, _ := shape.Count(a)
			y, _ := shape.Count(b)
			if x == y {
				reshapeIs(t, of(a, productsBehind(a), 0), b, of(b, productsBehind(b), 0), api.OK)
			} else {
				reshapeIs(t, of(a, productsBehind(a), 0), b, api.View{}, api.ErrShape)
			}
		}
	}
	reshapeIs(t, api.View{}, []int{1, 1}, of([]int{1, 1}, []int{1, 1}, 0), api.OK)
	reshapeIs(t, of([]int{4096, 16}, []int{16, 1}, 0), []int{256, 256}, of([]int{256, 256}, []int{256, 1}, 0), api.OK)
}

func TestReshapeOfWhatIsNotPlain(t *testing.T) {
	for _, v := range views() {
		count, _ := shape.Count(v.Shape)
		plain := v.Off == 0 && slices.Equal(v.Strides, productsBehind(v.Shape))
		for _, s := range [][]int{v.Shape, {min(count, 4096), max(count/4096, 1)}} {
			if plain {
				reshapeIs(t, v, s, of(s, productsBehind(s), 0), api.OK)
			} else {
				reshapeIs(t, v, s, api.View{}, api.ErrShape)
			}
		}
	}
	reshapeIs(t, of([]int{2, 3}, []int{3, 1}, 1), []int{6}, api.View{}, api.ErrShape)
	reshapeIs(t, of([]int{2, 3}, []int{1, 2}, 0), []int{6}, api.View{}, api.ErrShape)
	reshapeIs(t, of([]int{2, 3}, []int{3, 1}, 1), []int{2, 3}, api.View{}, api.ErrShape)
	reshapeIs(t, of([]int{1}, []int{0}, 0), []int{1}, api.View{}, api.ErrShape) // stands where the plain one does, but is not plain
	reshapeIs(t, of([]int{1, 3}, []int{4, 1}, 0), []int{3}, api.View{}, api.ErrShape)
	reshapeIs(t, of([]int{1, 3}, []int{3, 1}, 0), []int{3}, of([]int{3}, []int{1}, 0), api.OK)
	for _, v := range views() {
		for _, s := range noShapes() {
			reshapeIs(t, v, s, api.View{}, api.ErrForm)
		}
	}
}

// P7.3

func copied(v api.View, data []int64) api.Tensor {
	t := api.Tensor{Shape: v.Shape}
	for _, at := range placesOf(v) {
		t.Data = append(t.Data, data[at])
	}
	return t
}

func TestCopy(t *testing.T) {
	for _, v := range views() {
		for _, n := range []int{slices.Max(placesOf(v)) + 1, most} {
			data := words(n)
			copyIs(t, v, data, copied(v, data), api.OK)
		}
	}
	data := []int64{1, 2, 3, 4, 5, 6}
	copyIs(t, of([]int{3, 2}, []int{1, 3}, 0), data, api.Tensor{Shape: []int{3, 2}, Data: []int64{1, 4, 2, 5, 3, 6}}, api.OK)
	copyIs(t, of([]int{2, 3}, []int{3, 1}, 0), data, api.Tensor{Shape: []int{2, 3}, Data: data}, api.OK)
	copyIs(t, of([]int{2, 2}, []int{0, 1}, 4), data, api.Tensor{Shape: []int{2, 2}, Data: []int64{5, 6, 5, 6}}, api.OK)
	copyIs(t, of([]int{2, 2}, []int{1, 1}, 1), data, api.Tensor{Shape: []int{2, 2}, Data: []int64{2, 3, 3, 4}}, api.OK)
	copyIs(t, of(nil, nil, 5), data, api.Tensor{Data: []int64{6}}, api.OK)
}

func TestCopyOfTheExample(t *testing.T) {
	v, _ := view.Of([]int{2, 3})
	v, _ = view.Transpose(v, []int{1, 0})
	if !sameView(v, of([]int{3, 2}, []int{1, 3}, 0)) {
		t.Errorf("transposed: %v", v)
	}
	copyIs(t, v, []int64{1, 2, 3, 4, 5, 6}, api.Tensor{Shape: []int{3, 2}, Data: []int64{1, 4, 2, 5, 3, 6}}, api.OK)
}

func TestCopyAndLayOnDataOfAnotherLength(t *testing.T) {
	for _, v := range views() {
		from := copied(v, words(most))
		for _, n := range []int{0, slices.Max(placesOf(v)), most + 1, 2 * most} {
			copyIs(t, v, words(n), api.Tensor{}, api.ErrForm)
			layIs(t, v, from, words(n), nil, api.ErrForm)
		}
	}
	copyIs(t, api.View{}, nil, api.Tensor{}, api.ErrForm)
	layIs(t, api.View{}, api.Tensor{Data: words(1)}, nil, nil, api.ErrForm)
}

func meetsItself(v api.View) bool {
	places := placesOf(v)
	slices.Sort(places)
	return len(slices.Compact(places)) < len(placesOf(v))
}

func TestLay(t *testing.T) {
	met := [2]int{}
	for _, v := range views() {
		count, _ := shape.Count(v.Shape)
		from := api.Tensor{Shape: v.Shape, Data: make([]int64, count)}
		for k := range from.Data {
			from.Data[k] = int64(-5000 - k)
		}
		for _, n := range []int{slices.Max(placesOf(v)) + 1, most} {
			if meetsItself(v) {
				met[0]++
				layIs(t, v, from, words(n), nil, api.ErrShape)
				continue
			}
			met[1]++
			want := words(n)
			for k, at := range placesOf(v) {
				want[at] = from.Data[k]
			}
			layIs(t, v, from, words(n), want, api.OK)
		}
	}
	if met[0] < 10 || met[1] < 10 {
		t.Errorf("views that meet themselves, and others: %v", met)
	}
	layIs(t, of([]int{3, 2}, []int{1, 3}, 1), api.Tensor{Shape: []int{3, 2}, Data: []int64{1, 4, 2, 5, 3, 6}}, []int64{9, 9, 9, 9, 9, 9, 9, 8}, []int64{9, 1, 2, 3, 4, 5, 6, 8}, api.OK)
	layIs(t, of(nil, nil, 1), api.Tensor{Data: []int64{7}}, []int64{1, 2, 3}, []int64{1, 7, 3}, api.OK)
}

func TestLayWhereTwoIndexesStandAtOnePlace(t *testing.T) {
	data := words(20)
	for _, v := range []api.View{of([]int{2}, []int{0}, 0), of([]int{2, 2}, []int{1, 1}, 0), of([]int{2, 3}, []int{2, 1}, 3), of([]int{4, 2}, []int{1, 3}, 0), of([]int{2, 1, 2}, []int{3, 1, 3}, 0), of([]int{2, 2, 2, 2}, []int{1, 2, 4, 7}, 0)} {
		layIs(t, v, copied(v, data), data, nil, api.ErrShape) // that the same word would come there changes nothing
	}
	for _, v := range []api.View{of([]int{1}, []int{0}, 0), of([]int{2, 1}, []int{1, 0}, 0), of([]int{1, 1, 1}, []int{0, 0, 0}, 7), of([]int{2, 3}, []int{3, 2}, 0), of([]int{3, 2}, []int{2, 3}, 0)} {
		layIs(t, v, copied(v, data), data, data, api.OK)
	}
}

func TestLayOfOtherTensors(t *testing.T) {
	v, data := of([]int{2, 3}, []int{3, 1}, 0), words(6)
	for _, s := range [][]int{nil, {6}, {3, 2}, {1, 2, 3}, {2, 3, 1}, {2, 2}, {2}, {3}, {2, 4}} {
		count, _ := shape.Count(s)
		layIs(t, v, api.Tensor{Shape: s, Data: words(count)}, data, nil, api.ErrShape)
	}
	layIs(t, of([]int{1, 1}, []int{1, 1}, 0), api.Tensor{Data: words(1)}, data, nil, api.ErrShape)
}

func TestLayOfNoTensorsComesAheadOfShapes(t *testing.T) {
	data := words(30)
	for _, v := range []api.View{of([]int{2, 3}, []int{3, 1}, 0), of([]int{2, 3}, []int{0, 1}, 0), of([]int{6}, []int{1}, 0), {}} {
		for _, s := range [][]int{nil, {6}, {2, 3}, {1, 1}} {
			count, _ := shape.Count(s)
			for _, n := range []int{0, count - 1, count + 1, 30} {
				layIs(t, v, api.Tensor{Shape: s, Data: words(n)}, data, nil, api.ErrForm)
			}
		}
		for _, s := range noShapes() {
			for _, n := range []int{0, 1, 6} {
				layIs(t, v, api.Tensor{Shape: s, Data: words(n)}, data, nil, api.ErrForm)
			}
		}
	}
	layIs(t, of([]int{1 << 32, 1 << 32}, []int{0, 0}, 0), api.Tensor{Shape: []int{1 << 32, 1 << 32}}, data, nil, api.ErrForm)
}

// P7.3 with P2.1: what is handed in as words are words, all of it, whatever the view sees of it.

// edges are the words that are furthest from 0.
func edges() []int64 { return []int64{1<<47 - 1, -1<<47 + 1} }

func noWords() []int64 {
	return []int64{1 << 47, -1 << 47, 1<<47 + 1, -1<<47 - 1, 1 << 48, 1 << 62, math.MaxInt64, math.MinInt64}
}

// someOf are the first, the last and a few more of the numbers from 0 to below n.
func someOf(n int) []int {
	list := []int{0, n / 3, n / 2, n - 1}
	return slices.Compact(list)
}

func with(data []int64, at int, x int64) []int64 {
	list := slices.Clone(data)
	list[at] = x
	return list
}

// smallViews are those that stand within few words, and how many that is.
func smallViews() ([]api.View, int) {
	const few = 200
	return slices.DeleteFunc(views(), func(v api.View) bool { return slices.Max(placesOf(v)) >= few }), few
}

func TestCopyOfWordsAlone(t *testing.T) {
	list, few := smallViews()
	for _, v := range list {
		for _, n := range []int{slices.Max(placesOf(v)) + 1, few} {
			for _, at := range append(someOf(n), placesOf(v)[0]) {
				for _, x := range edges() {
					data := with(words(n), at, x)
					copyIs(t, v, data, copied(v, data), api.OK)
				}
				for _, x := range noWords() {
					copyIs(t, v, with(words(n), at, x), api.Tensor{}, api.ErrForm)
				}
			}
		}
	}
	copyIs(t, of([]int{2}, []int{1}, 0), []int64{noWords()[0], noWords()[1]}, api.Tensor{}, api.ErrForm)
	copyIs(t, of(nil, nil, most-1), with(words(most), 0, 1<<47), api.Tensor{}, api.ErrForm)
}

func TestLayOfWordsAlone(t *testing.T) {
	list, few := smallViews()
	for _, v := range list {
		if meetsItself(v) {
			continue
		}
		from := copied(v, words(few))
		for _, at := range someOf(len(from.Data)) {
			for _, x := range edges() {
				want := words(few)
				want[placesOf(v)[at]] = x
				layIs(t, v, api.Tensor{Shape: v.Shape, Data: with(from.Data, at, x)}, words(few), want, api.OK)
			}
			for _, x := range noWords() {
				layIs(t, v, api.Tensor{Shape: v.Shape, Data: with(from.Data, at, x)}, words(few), nil, api.ErrForm)
			}
		}
	}
}

func TestLayOnWordsAlone(t *testing.T) {
	list, few := smallViews()
	for _, v := range list {
		if meetsItself(v) {
			continue
		}
		from := copied(v, words(few))
		for _, at := range append(someOf(few), placesOf(v)[0]) { // what would be laid over is handed in, too
			for _, x := range edges() {
				data := with(words(few), at, x)
				want := slices.Clone(data)
				for k, place := range placesOf(v) {
					want[place] = from.Data[k]
				}
				layIs(t, v, from, data, want, api.OK)
			}
			for _, x := range noWords() {
				layIs(t, v, from, with(words(few), at, x), nil, api.ErrForm)
			}
		}
	}
}

func TestNoWordsComeAheadOfShapes(t *testing.T) {
	data := words(6)
	for _, x := range noWords() {
		for _, v := range []api.View{of([]int{2, 3}, []int{3, 1}, 0), of([]int{6}, []int{0}, 5), of([]int{2}, []int{0}, 1), of([]int{1, 1, 1}, []int{0, 0, 0}, 0), {}} { // some of which meet themselves
			for _, s := range [][]int{nil, {1}, {6}, {3, 2}, {1, 1, 1, 1}, v.Shape} {
				count, _ := shape.Count(s)
				good := api.Tensor{Shape: s, Data: words(count)}
				bad := api.Tensor{Shape: s, Data: with(good.Data, count-1, x)}
				layIs(t, v, bad, data, nil, api.ErrForm)
				layIs(t, v, bad, with(data, 5, x), nil, api.ErrForm)
				layIs(t, v, good, with(data, 0, x), nil, api.ErrForm)
				layIs(t, v, good, with(data, 5, x), nil, api.ErrForm)
			}
		}
	}
}

// R2: what was handed in stays, what was told may be written to.

func fill(list []int, x int) {
	for k := range list[:cap(list)] {
		list[:cap(list)][k] = x
	}
}

func TestArgumentsStayAndAnswersAreNew(t *testing.T) {
	room, ways, other := []int{2, 3, 1, 55, 56}, []int{3, 1, 1, 57, 58}, []int{2, 3, 4, 59}
	v, s, axes := of(room[:3], ways[:3], 0), other[:3], []int{2, 1, 0, 54}
	var told []api.View
	for _, call := range []func() (api.View, api.Errno){
		func() (api.View, api.Errno) { return view.Of(s) },
		func() (api.View, api.Errno) { return view.Transpose(v, axes[:3]) },
		func() (api.View, api.Errno) { return view.Transpose(v, []int{0, 1, 2}) },
		func() (api.View, api.Errno) { return view.Slice(v, 0, 0, 2) },
		func() (api.View, api.Errno) { return view.Slice(v, 1, 1, 2) },
		func() (api.View, api.Errno) { return view.Widen(v, s) },
		func() (api.View, api.Errno) { return view.Widen(v, v.Shape) },
		func() (api.View, api.Errno) { return view.Reshape(v, v.Shape) },
	} {
		for range 2 {
			one, e := call()
			if e != api.OK {
				t.Fatal(e)
			}
			told = append(told, one)
		}
	}
	for k, one := range told {
		fill(one.Shape, 1000+2*k)
		fill(one.Strides, 1001+2*k)
	}
	for k, one := range told {
		if !slices.Equal(one.Shape, []int{1000 + 2*k, 1000 + 2*k, 1000 + 2*k}) || !slices.Equal(one.Strides, []int{1001 + 2*k, 1001 + 2*k, 1001 + 2*k}) {
			t.Errorf("answer %d shares: %v", k, one)
		}
	}
	if !slices.Equal(room, []int{2, 3, 1, 55, 56}) || !slices.Equal(ways, []int{3, 1, 1, 57, 58}) || !slices.Equal(other, []int{2, 3, 4, 59}) || !slices.Equal(axes, []int{2, 1, 0, 54}) {
		t.Errorf("changed: %v, %v, %v, %v", room, ways, other, axes)
	}
}

func TestCopiedAndLaidWordsAreNew(t *testing.T) {
	room := []int{2, 3, 77}
	data := append(words(6), 88, 89)
	v := of(room[:2], []int{3, 1}, 0)
	from := api.Tensor{Shape: room[:2], Data: words(6)}
	first, _ := view.Copy(v, data[:6])
	laid, _ := view.Lay(v, from, data[:6])
	fill(first.Shape, -1)
	for _, list := range [][]int64{first.Data, laid} {
		for k := range list[:cap(list)] {
			list[:cap(list)][k] = -2
		}
	}
	if !slices.Equal(room, []int{2, 3, 77}) || !slices.Equal(data, append(words(6), 88, 89)) || !slices.Equal(from.Data, words(6)) {
		t.Errorf("changed: %v, %v, %v", room, data, from.Data)
	}
	turned := of([]int{3, 2}, []int{1, 3}, 0)
	layIs(t, turned, api.Tensor{Shape: []int{3, 2}, Data: []int64{1, 4, 2, 5, 3, 6}}, data[:6], []int64{1, 2, 3, 4, 5, 6}, api.OK)
	layIs(t, of([]int{2}, []int{0}, 0), api.Tensor{Shape: []int{2}, Data: []int64{1, 2}}, data[:6], nil, api.ErrShape) // told once some are laid
	if !slices.Equal(data, append(words(6), 88, 89)) {
		t.Errorf("changed: %v", data)
	}
}

// P7.4

func back(axes []int) []int {
	list := make([]int, len(axes))
	for k, axis := range axes {
		list[axis] = k
	}
	return list
}

func TestTransposedThereAndBack(t *testing.T) {
	for _, v := range views() {
		for _, axes := range orders(len(v.Shape)) {
			there, e := view.Transpose(v, axes)
			if e != api.OK {
				t.Fatal(e)
			}
			transposeIs(t, there, back(axes), v, api.OK)
		}
	}
}

// standsAt holds each word that is copied out of told against the one where what index tells of v stands.
func standsAt(t *testing.T, what string, v, told api.View, index func(i []int) []int) {
	t.Helper()
	data := words(most)
	got, e := view.Copy(told, data)
	if e != api.OK {
		t.Fatalf("%s of %v: %v", what, v, e)
	}
	for n, i := range shape.All(told.Shape) {
		if want := data[placeOf(v, index(i))]; got.Data[n] != want {
			t.Fatalf("%s of %v: at %v %d; want %d", what, v, i, got.Data[n], want)
		}
	}
}

func TestWordsOfTransposedSlicedWidenedViews(t *testing.T) {
	for _, v := range views() {
		for _, axes := range orders(len(v.Shape)) {
			turned, _ := view.Transpose(v, axes)
			standsAt(t, "Transpose", v, turned, func(i []int) []int {
				at := make([]int, len(axes))
				for k, axis := range axes {
					at[axis] = i[k]
				}
				return at
			})
		}
		for axis, d := range v.Shape {
			part, _ := view.Slice(v, axis, d/2, d)
			standsAt(t, "Slice", v, part, func(i []int) []int {
				i[axis] += d / 2
				return i
			})
		}
		count, _ := shape.Count(v.Shape)
		if len(v.Shape) == api.MaxRank || 3*count > most {
			continue
		}
		grown := append([]int{3}, v.Shape...)
		if k := slices.Index(grown, 1); k > 0 {
			grown[k] = min(5, most/3/count)
		}
		wide, _ := view.Widen(v, grown)
		standsAt(t, "Widen", v, wide, func(i []int) []int {
			at := i[1:]
			for k, d := range v.Shape {
				at[k] = min(at[k], d-1)
			}
			return at
		})
	}
}

func TestLayAndCopyUndoEachOther(t *testing.T) {
	m := mixer.Mixer(74)
	for _, v := range views() {
		data := make([]int64, most)
		for k := range data {
			data[k] = int64(m.Next() >> 20)
		}
		there, e := view.Copy(v, data)
		if e != api.OK {
			t.Fatal(e)
		}
		if meetsItself(v) {
			continue
		}
		layIs(t, v, there, data, data, api.OK)
		for k := range there.Data {
			there.Data[k] = int64(m.Next() >> 20)
		}
		laid, e := view.Lay(v, there, data)
		if e != api.OK {
			t.Fatal(e)
		}
		copyIs(t, v, laid, there, api.OK)
		for at, word := range laid {
			if !slices.Contains(placesOf(v), at) && word != data[at] {
				t.Errorf("Lay of %v: %d was changed", v, at)
			}
			if at > 200 {
				break
			}
		}
	}
}

func TestOneViewBehindTheOther(t *testing.T) {
	v, _ := view.Of([]int{2, 3, 4})
	v, _ = view.Transpose(v, []int{2, 0, 1})
	v, _ = view.Slice(v, 0, 1, 3)
	v, _ = view.Slice(v, 2, 2, 3)
	v, e := view.Widen(v, []int{2, 2, 3})
	if e != api.OK {
		t.Fatal(e)
	}
	copyIs(t, v, words(24), api.Tensor{Shape: []int{2, 2, 3}, Data: []int64{words(24)[9], words(24)[9], words(24)[9], words(24)[21], words(24)[21], words(24)[21], words(24)[10], words(24)[10], words(24)[10], words(24)[22], words(24)[22], words(24)[22]}}, api.OK)
	reshapeIs(t, v, []int{12}, api.View{}, api.ErrShape)
}
