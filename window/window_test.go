package window_test

import (
	"math"
	"slices"
	"testing"

	"ratchet/api"
	"ratchet/window"
)

func numbers(stride, pad, dilation []int) api.Conv {
	return api.Conv{Stride: stride, Pad: pad, Dilation: dilation}
}

func TestAreNumbers(t *testing.T) {
	ones, none := []int{1, 1}, []int{0, 0}
	for _, c := range []struct {
		c    api.Conv
		want bool
	}{
		{numbers([]int{1}, []int{0}, []int{1}), true}, {numbers(ones, none, ones), true}, {numbers([]int{4096}, []int{4096}, []int{4096}), true}, {numbers([]int{4096, 1}, []int{0, 4096}, []int{1, 4096}), true},
		{api.Conv{}, false}, {numbers([]int{}, []int{}, []int{}), false}, {numbers([]int{1, 1, 1}, []int{0, 0, 0}, []int{1, 1, 1}), false},
		{numbers([]int{1}, none, ones), false}, {numbers(ones, []int{0}, ones), false}, {numbers(ones, none, []int{1}), false}, {numbers(nil, none, ones), false}, {numbers(ones, nil, ones), false}, {numbers(ones, none, nil), false}, {numbers(ones, []int{0, 0, 0}, ones), false},
		{numbers([]int{1}, []int{0}, []int{0}), false}, {numbers([]int{0}, []int{0}, []int{1}), false}, {numbers([]int{1}, []int{-1}, []int{1}), false},
	} {
		if got := window.AreNumbers(c.c); got != c.want {
			t.Errorf("AreNumbers(%v): %v", c.c, got)
		}
	}
	for _, v := range []int{-1, 4097, math.MinInt, math.MaxInt} {
		for _, bad := range [][]int{{v, 1}, {1, v}} {
			if window.AreNumbers(numbers(bad, none, ones)) || window.AreNumbers(numbers(ones, bad, ones)) || window.AreNumbers(numbers(ones, none, bad)) || window.AreSizes(bad) {
				t.Errorf("numbers with %d are some", v)
			}
		}
	}
	if window.AreSizes([]int{3, 0}) || !window.AreSizes([]int{1, 4096, 7}) || !window.AreSizes(nil) {
		t.Error("AreSizes")
	}
}

func TestOfWhatDoesNotGoTogether(t *testing.T) {
	one, two := numbers([]int{1}, []int{0}, []int{1}), numbers([]int{2, 1}, []int{0, 0}, []int{1, 2})
	for _, c := range []struct {
		s, kernel []int
		c         api.Conv
	}{
		{nil, nil, one}, {[]int{4}, nil, one}, {[]int{1, 4}, nil, one}, {[]int{1, 4}, []int{1}, one}, {[]int{1, 1, 4, 4}, []int{1}, one}, {[]int{1, 1, 4}, []int{1, 1}, one}, {[]int{1, 1, 4}, nil, one}, {[]int{1, 1, 4}, []int{1}, two}, {[]int{1, 1, 4, 4}, []int{1, 1}, one}, {[]int{1, 1, 4, 4}, []int{1}, two}, {[]int{1, 1, 4, 4, 4}, []int{1, 1, 1}, two},
		{[]int{1, 1, 4}, []int{5}, one}, {[]int{1, 1, 4, 4}, []int{5, 1}, two}, {[]int{1, 1, 4, 4}, []int{1, 3}, two}, {[]int{1, 1, 1, 1}, []int{4096, 4096}, two}, {[]int{1, 1, 3}, []int{3}, numbers([]int{4096}, []int{0}, []int{2})}, {[]int{1, 1, 3}, []int{2}, numbers([]int{4096}, []int{0}, []int{4096})},
	} {
		w, e := window.Of(c.s, c.kernel, c.c)
		if e != api.ErrShape || w.Places != nil || w.Count != 0 || w.Taps != 0 || w.Words != 0 {
			t.Errorf("Of(%v, %v, %v): %v, %v", c.s, c.kernel, c.c, w, e)
		}
	}
}

// A going is a window's numbers and what is to be told of it.
type going struct {
	s, kernel           []int
	stride, pad, dilate []int
	places              []int
	within              [][][2]int // at each place: words and taps
}

func goings() []going {
	return []going{
		{[]int{1, 1, 4}, []int{2}, []int{1}, []int{0}, []int{1}, []int{3}, [][][2]int{{{0, 0}, {1, 1}}, {{1, 0}, {2, 1}}, {{2, 0}, {3, 1}}}},
		{[]int{5, 7, 4}, []int{2}, []int{1}, []int{1}, []int{1}, []int{5}, [][][2]int{{{0, 1}}, {{0, 0}, {1, 1}}, {{1, 0}, {2, 1}}, {{2, 0}, {3, 1}}, {{3, 0}}}},
		{[]int{1, 1, 4}, []int{2}, []int{3}, []int{0}, []int{1}, []int{1}, [][][2]int{{{0, 0}, {1, 1}}}},
		{[]int{1, 1, 5}, []int{2}, []int{3}, []int{0}, []int{1}, []int{2}, [][][2]int{{{0, 0}, {1, 1}}, {{3, 0}, {4, 1}}}},
		{[]int{1, 1, 2}, []int{1}, []int{1}, []int{3}, []int{1}, []int{8}, [][][2]int{nil, nil, nil, {{0, 0}}, {{1, 0}}, nil, nil, nil}},
		{[]int{1, 1, 1}, []int{3}, []int{1}, []int{4096}, []int{4096}, []int{1}, [][][2]int{{{0, 1}}}},
		{[]int{1, 1, 5}, []int{3}, []int{1}, []int{1}, []int{2}, []int{3}, [][][2]int{{{1, 1}, {3, 2}}, {{0, 0}, {2, 1}, {4, 2}}, {{1, 0}, {3, 1}}}},
		{[]int{1, 1, 1, 3}, []int{1, 2}, []int{1, 1}, []int{0, 0}, []int{1, 1}, []int{1, 2}, [][][2]int{{{0, 0}, {1, 1}}, {{1, 0}, {2, 1}}}},
		{[]int{1, 1, 3, 1}, []int{2, 1}, []int{1, 1}, []int{0, 0}, []int{1, 1}, []int{2, 1}, [][][2]int{{{0, 0}, {1, 1}}, {{1, 0}, {2, 1}}}},
		{[]int{2, 1, 2, 3}, []int{2, 2}, []int{1, 2}, []int{0, 1}, []int{1, 1}, []int{1, 2}, [][][2]int{{{0, 1}, {3, 3}}, {{1, 0}, {2, 1}, {4, 2}, {5, 3}}}},
		{[]int{1, 1, 2, 2}, []int{2, 1}, []int{2, 1}, []int{1, 0}, []int{1, 1}, []int{2, 2}, [][][2]int{{{0, 1}}, {{1, 1}}, {{2, 0}}, {{3, 0}}}},
		{[]int{1, 1, 1, 2}, []int{1, 1}, []int{2, 1}, []int{2, 0}, []int{1, 1}, []int{3, 2}, [][][2]int{nil, nil, {{0, 0}}, {{1, 0}}, nil, nil}},
	}
}

func (g going) window(t *testing.T) window.Window {
	t.Helper()
	w, e := window.Of(g.s, g.kernel, numbers(g.stride, g.pad, g.dilate))
	if e != api.OK {
		t.Fatalf("Of(%v): %v", g, e)
	}
	return w
}

func product(list []int) int {
	all := 1
	for _, n := range list {
		all *= n
	}
	return all
}

func TestWindows(t *testing.T) {
	for _, g := range goings() {
		w := g.window(t)
		if !slices.Equal(w.Places, g.places) || w.Count != product(g.places) || w.Taps != product(g.kernel) || w.Words != product(g.s[2:]) {
			t.Errorf("%v: %v", g, w)
		}
		for place, want := range g.within {
			var got [][2]int
			for word, tap := range w.Within(place) {
				got = append(got, [2]int{word, tap})
			}
			if !slices.Equal(got, want) {
				t.Errorf("%v at %d: %v", g, place, got)
			}
		}
	}
}

func TestWithinIsLeft(t *testing.T) {
	for _, g := range goings() {
		w := g.window(t)
		for place, want := range g.within {
			for many := range want {
				var got [][2]int
				for word, tap := range w.Within(place) {
					got = append(got, [2]int{word, tap})
					if len(got) == many+1 {
						break
					}
				}
				if !slices.Equal(got, want[:many+1]) {
					t.Errorf("%v at %d: %v", g, place, got)
				}
			}
		}
	}
}

func TestWindowsOfALine(t *testing.T) {
	for _, c := range []struct {
		length, taps, stride, pad, dilation int
		want                                [][]int
	}{
		{4, 2, 1, 0, 1, [][]int{{0, 1}, {1, 2}, {2, 3}}}, {4, 2, 1, 1, 1, [][]int{{0}, {0, 1}, {1, 2}, {2, 3}, {3}}}, {5, 2, 3, 0, 1, [][]int{{0, 1}, {3, 4}}}, {6, 2, 3, 0, 1, [][]int{{0, 1}, {3, 4}}}, {3, 1, 1, 0, 7, [][]int{{0}, {1}, {2}}}, {3, 3, 1, 0, 1, [][]int{{0, 1, 2}}},
		{5, 3, 1, 1, 2, [][]int{{1, 3}, {0, 2, 4}, {1, 3}}}, {1, 3, 1, 4096, 4096, [][]int{{0}}}, {2, 1, 1, 2, 1, [][]int{{}, {}, {0}, {1}, {}, {}}}, {2, 2, 1, 2, 3, [][]int{{1}, {}, {0}}}, {2, 2, 2, 3, 4, [][]int{{1}, {}}},
	} {
		ones, none := []int{1, 1}, []int{0, 0}
		of := func(s, kernel []int, d int) window.Window {
			stride, pad, dilate := slices.Clone(ones), slices.Clone(none), slices.Clone(ones)
			stride[d], pad[d], dilate[d] = c.stride, c.pad, c.dilation
			w, e := window.Of(s, kernel, numbers(stride, pad, dilate))
			if e != api.OK {
				t.Fatalf("%v: %v", c, e)
			}
			return w
		}
		row, e := window.Of([]int{1, 1, c.length}, []int{c.taps}, numbers([]int{c.stride}, []int{c.pad}, []int{c.dilation}))
		rows, columns := of([]int{1, 1, c.length, 2}, []int{c.taps, 2}, 0), of([]int{1, 1, 2, c.length}, []int{2, c.taps}, 1)
		if e != api.OK || row.Rows.Length != 1 || row.Rows.Places != 1 || rows.Columns.Length != 2 || rows.Columns.Places != 1 || columns.Rows.Length != 2 || columns.Rows.Places != 1 {
			t.Errorf("%v: %v, %v, %v", c, row, rows, columns)
		}
		for _, l := range []window.Line{row.Columns, rows.Rows, columns.Columns} {
			got := slices.Collect(l.Windows())
			if l.Length != c.length || l.Places != len(c.want) || !slices.EqualFunc(got, c.want, slices.Equal[[]int]) {
				t.Errorf("%v: %v, %v", c, l, got)
			}
		}
		if got := slices.Collect(row.Rows.Windows()); !slices.EqualFunc(got, [][]int{{0}}, slices.Equal[[]int]) {
			t.Errorf("%v: a single row has %v", c, got)
		}
	}
}

func TestWindowsAreLeftAndAreListsOfTheirOwn(t *testing.T) {
	w, _ := window.Of([]int{1, 1, 6}, []int{2}, numbers([]int{1}, []int{1}, []int{1}))
	for many := range w.Columns.Places {
		var got [][]int
		for words := range w.Columns.Windows() {
			got = append(got, words)
			for n := range words[:cap(words)] {
				words[:cap(words)][n] = len(got)
			}
			if len(got) > many {
				break
			}
		}
		for n, words := range got {
			if slices.ContainsFunc(words, func(word int) bool { return word != n+1 }) {
				t.Errorf("%d of them: %v", many+1, got)
			}
		}
	}
	if got := slices.Collect(w.Columns.Windows()); !slices.EqualFunc(got, [][]int{{0}, {0, 1}, {1, 2}, {2, 3}, {3, 4}, {4, 5}, {5}}, slices.Equal[[]int]) {
		t.Errorf("%v", got)
	}
}

func TestWindowKeepsNothing(t *testing.T) {
	s, kernel, c := []int{1, 1, 5}, []int{2}, numbers([]int{3}, []int{0}, []int{1})
	w, _ := window.Of(s, kernel, c)
	for _, list := range [][]int{s, kernel, c.Stride, c.Pad, c.Dilation} {
		list[len(list)-1] = 77
	}
	var got []int
	for word, tap := range w.Within(1) {
		got = append(got, word, tap)
	}
	if !slices.Equal(got, []int{3, 0, 4, 1}) || !slices.Equal(w.Places, []int{2}) {
		t.Errorf("%v: %v", w, got)
	}
}
