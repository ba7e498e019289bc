package window_test

import (
	"math"
	"slices"
	"testing"

	"ratchet/api"
	"ratchet/window"
)

func numbers(stride, pad, dilation []int) api.Conv {
	return api.Conv{Stride: stride, Pad: pad, Dilation: dilation}
}

func TestAreNumbers(t *testing.T) {
	ones, none := []int{1, 1}, []int{0, 0}
	for _, c := range []struct {
		c    api.Conv
		want bool
	}{
		{numbers([]int{1}, []int{0}, []int{1}), true}, {numbers(ones, none, ones), true}, {numbers([]int{4096}, []int{4096}, []int{4096}), true}, {numbers([]int{4096, 1}, []int{0, 4096}, []int{1, 4096}), true},
		{api.Conv{}, false}, {numbers([]int{}, []int{}, []int{}), false}, {numbers([]int{1, 1, 1}, []int{0, 0, 0}, []int{1, 1, 1}), false},
		{numbers([]int{1}, none, ones), false}, {numbers(ones, []int{0}, ones), false}, {numbers(ones, none, []int{1}), false}, {numbers(nil, none, ones), false}, {numbers(ones, nil, ones), false}, {numbers(ones, none, nil), false}, {numbers(ones, []int{0, 0, 0}, ones), false},
		{numbers([]int{1}, []int{0}, []int{0}), false}, {numbers([]int{0}, []int{0}, []int{1}), false}, {numbers([]int{1}, []int{-1}, []int{1}), false},
	} {
		if got := window.AreNumbers(c.c); got != c.want {
			t.Errorf("AreNumbers(%v): %v", c.c, got)
		}
	}
	for _, v := range []int{-1, 4097, math.MinInt, math.MaxInt} {
		for _, bad := range [][]int{{v, 1}, {1, v}} {
			if window.AreNumbers(numbers(bad, none, ones)) || window.AreNumbers(numbers(ones, bad, ones)) || window.AreNumbers(numbers(ones, none, bad)) || window.AreSizes(bad) {
				t.Errorf("numbers with %d are some", v)
			}
		}
	}
	if window.AreSizes([]int{3, 0}) || !window.AreSizes([]int{1, 4096, 7}) || !window.AreSizes(nil) {
		t.Error("AreSizes")
	}
}

func TestOfWhatDoesNotGoTogether(t *testing.T) {
	one, two := numbers([]int{1}, []int{0}, []int{1}), numbers([]int{2, 1}, []int{0, 0}, []int{1, 2})
	for _, c := range []struct {
		s, kernel []int
		c         api.Conv
	}{
		{nil, nil, one}, {[]int{4}, nil, one}, {[]int{1, 4}, nil, one}, {[]int{1, 4}, []int{1}, one}, {[]int{1, 1, 4, 4}, []int{1}, one}, {[]int{1, 1, 4}, []int{1, 1}, one}, {[]int{1, 1, 4}, nil, one}, {[]int{1, 1, 4}, []int{1}, two}, {[]int{1, 1, 4, 4}, []int{1, 1}, one}, {[]int{1, 1, 4, 4}, []int{1}, two}, {[]int{1, 1, 4, 4, 4}, []int{1, 1, 1}, two},
		{[]int{1, 1, 4}, []int{5}, one}, {[]int{1, 1, 4, 4}, []int{5, 1}, two}, {[]int{1, 1, 4, 4}, []int{1, 3}, two}, {[]int{1, 1, 1, 1}, []int{4096, 4096}, two}, {[]int{1, 1, 3}, []int{3}, numbers([]int{4096}, []int{0}, []int{2})}, {[]int{1, 1, 3}, []int{2}, numbers([]int{4096}, []int{0}, []int{4096})},
	} {
		w, e := window.Of(c.s, c.kernel, c.c)
		if e != api.ErrShape || w.Places != nil || w.Count != 0 || w.Taps != 0 || w.Words != 0 {
			t.Errorf("Of(%v, %v, %v): %v, %v", c.s, c.kernel, c.c, w, e)
		}
	}
}

// A going is a window's numbers and what is to be told of it.
type going struct {
	s, kernel           []int
	stride, pad, dilate []int
	places              []int
	within              [][][2]int // at each place: words and taps
}

func goings() []going {
	return []going{
		{[]int{1, 1, 4}, []int{2}, []int{1}, []int{0}, []int{1}, []int{3}, [][][2]int{{{0, 0}, {1, 1}}, {{1, 0}, {2, 1}}, {{2, 0}, {3, 1}}}},
		{[]int{5, 7, 4}, []int{2}, []int{1}, []int{1}, []int{1}, []int{5}, [][][2]int{{{0, 1}}, {{0, 0}, {1, 1}}, {{1, 0}, {2, 1}}, {{2, 0}, {3, 1}}, {{3, 0}}}},
		{[]int{1, 1, 4}, []int{2}, []int{3}, []int{0}, []int{1}, []int{1}, [][][2]int{{{0, 0}, {1, 1}}}},
		{[]int{1, 1, 5}, []int{2}, []int{3}, []int{0}, []int{1}, []int{2}, [][][2]int{{{0, 0}, {1, 1}}, {{3, 0}, {4, 1}}}},
		{[]int{1, 1, 2}, []int{1}, []int{1}, []int{3}, []int{1}, []int{8}, [][][2]int{nil, nil, nil, {{0, 0}}, {{1, 0}}, nil, nil, nil}},
		{[]int{1, 1, 1}, []int{3}, []int{1}, []int{4096}, []int{4096}, []int{1}, [][][2]int{{{0, 1}}}},
		{[]int{1, 1, 5}, []int{3}, []int{1}, []int{1}, []int{2}, []int{3}, [][][2]int{{{1, 1}, {3, 2}}, {{0, 0}, {2, 1}, {4, 2}}, {{1, 0}, {3, 1}}}},
		{[]int{1, 1, 1, 3}, []int{1, 2}, []int{1, 1}, []int{0, 0}, []int{1, 1}, []int{1, 2}, [][][2]int{{{0, 0}, {1, 1}}, {{1, 0}, {2, 1}}}},
		{[]int{1, 1, 3, 1}, []int{2, 1}, []int{1, 1}, []int{0, 0}, []int{1, 1}, []int{2, 1}, [][][2]int{{{0, 0}, {1, 1}}, {{1, 0}, {2, 1}}}},
		{[]int{2, 1, 2, 3}, []int{2, 2}, []int{1, 2}, []int{0, 1}, []int{1, 1}, []int{1, 2}, [][][2]int{{{0, 1}, {3, 3}}, {{1, 0}, {2, 1}, {4, 2}, {5, 3}}}},
		{[]int{1, 1, 2, 2}, []int{2, 1}, []int{2, 1}, []int{1, 0}, []int{1, 1}, []int{2, 2}, [][][2]int{{{0, 1}}, {{1, 1}}, {{2, 0}}, {{3, 0}}}},
		{[]int{1, 1, 1, 2}, []int{1, 1}, []int{2, 1}, []int{2, 0}, []int{1, 1}, []int{3, 2}, [][][2]int{nil, nil, {{0, 0}}, {{1, 0}}, nil, nil}},
	}
}

func (g going) window(t *testing.T) window.Window {
	t.Helper()
	w, e := window.Of(g.s, g.kernel, numbers(g.stride, g.pad, g.dilate))
	if e != api.OK {
		t.Fatalf("Of(%v): %v", g, e)
	}
	return w
}

func product(list []int) int {
	all := 1
	for _, n := range list {
		all *= n
	}
	return all
}

func TestWindows(t *testing.T) {
	for _, g := range goings() {
		w := g.window(t)
		if !slices.Equal(w.Places, g.places) || w.Count != product(g.places) || w.Taps != product(g.kernel) || w.Words != product(g.s[2:]) {
			t.Errorf("%v: %v", g, w)
		}
		for place, want := range g.within {
			var got [][2]int
			for word, tap := range w.Within(place) {
				got = append(got, [2]int{word, tap})
			}
			if !slices.Equal(got, want) {
				t.Errorf("%v at %d: %v", g, place, got)
			}
		}
	}
}

func TestWithinIsLeft(t *testing.T) {
	for _, g := range goings() {
		w := g.window(t)
		for place, want := range g.within {
			for many := range want {
				var got [][2]int
				for word, tap := range w.Within(place) {
					got = append(got, [2]int{word, tap})
					if len(got) == many+1 {
						break
					}
				}
				if !slices.Equal(got, want[:many+1]) {
					t.Errorf("%v at %d: %v", g, place, got)
				}
			}
		}
	}
}

func TestWindowKeepsNothing(t *testing.T) {
	s, kernel, c := []int{1, 1, 5}, []int{2}, numbers([]int{3}, []int{0}, []int{1})
	w, _ := window.Of(s, kernel, c)
	for _, list := range [][]int{s, kernel, c.Stride, c.Pad, c.Dilation} {
		list[len(list)-1] = 77
	}
	var got []int
	for word, tap := range w.Within(1) {
		got = append(got, word, tap)
	}
	if !slices.Equal(got, []int{3, 0, 4, 1}) || !slices.Equal(w.Places, []int{2}) {
		t.Errorf("%v: %v", w, got)
	}
}
