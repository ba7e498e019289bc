package shape_test

import (
	"math"
	"math/big"
	"slices"
	"testing"

	"ratchet/api"
	"ratchet/mixer"
	"ratchet/shape"
)

// noShapes are lists that are just none, and lists whose products, cut to 64 bits, would be such as a shape's.
func noShapes() [][]int {
	list := [][]int{
		{1, 1, 1, 1, 1}, {2, 1, 1, 1, 1, 1}, make([]int, 5), make([]int, 1000),
		{4096, 17}, {17, 4096}, {257, 256}, {4096, 4096}, {4096, 4096, 4096}, {4096, 4096, 4096, 4096}, {17, 16, 16, 16}, {16, 16, 16, 17}, {2, 1, 4096, 9}, {1, 1, 65537},
		{4096, 4096, 4096, 4096, 4096, 4096}, {1 << 32, 1 << 32}, {math.MaxInt, math.MaxInt}, {-1, -1}, {-2, -3}, {math.MinInt, 2}, {math.MinInt, math.MinInt}, {1 << 62, 4, 4}, {4, 4, 1 << 62}, {0, math.MaxInt}, {math.MaxInt, 0}, {4096, 0}, {0, 4096, 4096}, {4096, 4096, 0},
	}
	for _, d := range []int{0, -1, -2, -4096, 4097, 5000, 65536, 65537, 1 << 31, 1 << 32, 1<<32 + 1, math.MaxInt - 1, math.MaxInt, math.MinInt, math.MinInt + 1} {
		list = append(list, []int{d}, []int{d, 2}, []int{2, d}, []int{1, 1, 1, d}, []int{3, d, 1, 2})
	}
	return list
}

// small are all shapes of dimensions up to most, of all ranks.
func small(most int) [][]int {
	list := [][]int{nil}
	last := list
	for range api.MaxRank {
		var longer [][]int
		for _, s := range last {
			for d := 1; d <= most; d++ {
				longer = append(longer, append(slices.Clone(s), d))
			}
		}
		list = append(list, longer...)
		last = longer
	}
	return list
}

// great are shapes at the edges.
func great() [][]int {
	return [][]int{{}, {4096}, {4095}, {4096, 1}, {1, 4096}, {4096, 16}, {16, 4096}, {4096, 15}, {256, 256}, {255, 257}, {4096, 4, 4}, {4, 4096, 4}, {1, 1, 1, 1}, {1, 1, 1, 4096}, {1, 16, 1, 4096}, {4096, 1, 1, 16}, {16, 16, 16, 16}, {15, 17, 16, 16}, {2, 2, 4096, 4}, {2, 32767 / 8, 2, 4}, {3, 7, 11, 13}, {40, 40, 40}, {3, 4096, 5}}
}

func shapes() [][]int { return append(small(3), great()...) }

// productOf is the count by numbers of any size.
func productOf(s []int) *big.Int {
	product := big.NewInt(1)
	for _, d := range s {
		product.Mul(product, big.NewInt(int64(d)))
	}
	return product
}

func isShape(s []int) bool {
	for _, d := range s {
		if d < 1 || d > 4096 {
			return false
		}
	}
	return len(s) <= 4 && productOf(s).Cmp(big.NewInt(65536)) <= 0
}

// stridesOf are the products of all dimensions behind.
func stridesOf(s []int) []int {
	var list []int
	for k := range s {
		list = append(list, int(productOf(s[k+1:]).Int64()))
	}
	return list
}

// indexesOf are all indexes in order, the last number running fastest.
func indexesOf(s []int) [][]int {
	list := [][]int{nil}
	for _, d := range s {
		var longer [][]int
		for _, i := range list {
			for k := range d {
				longer = append(longer, append(slices.Clone(i), k))
			}
		}
		list = longer
	}
	return list
}

func numberIs(t *testing.T, what string, lists [][]int, got int, e api.Errno, want int, wantE api.Errno) {
	t.Helper()
	if got != want || e != wantE {
		t.Errorf("%s of %v: %d, %v; want %d, %v", what, lists, got, e, want, wantE)
	}
}

// listIs takes a list without a number for the zero value where there is no error alone.
func listIs(t *testing.T, what string, lists [][]int, got []int, e api.Errno, want []int, wantE api.Errno) {
	t.Helper()
	if !slices.Equal(got, want) || e != wantE || e != api.OK && got != nil {
		t.Errorf("%s of %v: %v, %v; want %v, %v", what, lists, got, e, want, wantE)
	}
}

func checkIs(t *testing.T, s []int, want api.Errno) {
	t.Helper()
	if e := shape.Check(s); e != want {
		t.Errorf("Check(%v): %v; want %v", s, e, want)
	}
}

func countIs(t *testing.T, s []int, want int, wantE api.Errno) {
	t.Helper()
	got, e := shape.Count(s)
	numberIs(t, "Count", [][]int{s}, got, e, want, wantE)
}

func stridesAre(t *testing.T, s []int, want []int, wantE api.Errno) {
	t.Helper()
	got, e := shape.Strides(s)
	listIs(t, "Strides", [][]int{s}, got, e, want, wantE)
}

func indexIs(t *testing.T, s, i []int, want int, wantE api.Errno) {
	t.Helper()
	got, e := shape.Index(s, i)
	numberIs(t, "Index", [][]int{s, i}, got, e, want, wantE)
}

func atIs(t *testing.T, s []int, n int, want []int, wantE api.Errno) {
	t.Helper()
	got, e := shape.At(s, n)
	listIs(t, "At", [][]int{s, {n}}, got, e, want, wantE)
}

// walked is what All tells, and is wrong where its numbers do not go up from 0.
func walked(t *testing.T, s []int) [][]int {
	t.Helper()
	var list [][]int
	for n, i := range shape.All(s) {
		if n != len(list) {
			t.Fatalf("All(%v): %d behind %d lists", s, n, len(list))
		}
		list = append(list, i)
	}
	return list
}

func sameLists(a, b [][]int) bool { return slices.EqualFunc(a, b, slices.Equal[[]int]) }

func spreadIs(t *testing.T, a, b []int, want []int, wantE api.Errno) {
	t.Helper()
	got, e := shape.Spread(a, b)
	listIs(t, "Spread", [][]int{a, b}, got, e, want, wantE)
	got, e = shape.Spread(b, a)
	listIs(t, "Spread", [][]int{b, a}, got, e, want, wantE)
}

func underIs(t *testing.T, s, to, i []int, want int, wantE api.Errno) {
	t.Helper()
	got, e := shape.Under(s, to, i)
	numberIs(t, "Under", [][]int{s, to, i}, got, e, want, wantE)
}

// P6.1

func TestCheck(t *testing.T) {
	for _, s := range shapes() {
		checkIs(t, s, api.OK)
	}
	for _, s := range noShapes() {
		checkIs(t, s, api.ErrForm)
	}
}

func TestEachDimension(t *testing.T) {
	for d := -10; d <= 5000; d++ {
		want := api.OK
		if !isShape([]int{d}) {
			want = api.ErrForm
		}
		for _, s := range [][]int{{d}, {1, d}, {d, 1, 1, 1}, {1, 1, d, 1}} {
			checkIs(t, s, want)
		}
	}
}

func TestCountsAboutTheMost(t *testing.T) {
	m := mixer.Mixer(61)
	for range 200000 {
		s := make([]int, 1+m.Below(5))
		for k := range s {
			s[k] = 1 + m.Below(1<<(1+m.Below(13)))
		}
		if !isShape(s) {
			countIs(t, s, 0, api.ErrForm)
			continue
		}
		countIs(t, s, int(productOf(s).Int64()), api.OK)
	}
}

func TestCountAndStrides(t *testing.T) {
	for _, s := range shapes() {
		countIs(t, s, int(productOf(s).Int64()), api.OK)
		stridesAre(t, s, stridesOf(s), api.OK)
	}
	countIs(t, nil, 1, api.OK)
	countIs(t, []int{}, 1, api.OK)
	countIs(t, []int{4096, 16}, 65536, api.OK)
	countIs(t, []int{16, 16, 16, 16}, 65536, api.OK)
	stridesAre(t, nil, nil, api.OK)
	stridesAre(t, []int{4096}, []int{1}, api.OK)
	stridesAre(t, []int{2, 3, 4}, []int{12, 4, 1}, api.OK)
	stridesAre(t, []int{1, 1, 5, 1}, []int{5, 5, 1, 1}, api.OK)
	stridesAre(t, []int{1, 16, 1, 4096}, []int{65536, 4096, 4096, 1}, api.OK)
}

func TestNoShapesAreToldFirst(t *testing.T) {
	for _, s := range noShapes() {
		countIs(t, s, 0, api.ErrForm)
		stridesAre(t, s, nil, api.ErrForm)
		for _, i := range [][]int{nil, {0}, {-1}, make([]int, len(s)), {0, 0, 0, 0}, {math.MaxInt}} {
			indexIs(t, s, i, 0, api.ErrForm)
			for _, other := range append(noShapes(), nil, []int{1}, []int{2, 3}, []int{7}) {
				underIs(t, s, other, i, 0, api.ErrForm)
				underIs(t, other, s, i, 0, api.ErrForm)
			}
		}
		for _, n := range []int{0, 1, -1, math.MaxInt, math.MinInt} {
			atIs(t, s, n, nil, api.ErrForm)
		}
		for _, other := range append(shapes(), noShapes()...) {
			spreadIs(t, s, other, nil, api.ErrForm)
		}
		if list := walked(t, s); len(list) != 0 {
			t.Errorf("All(%v): %d lists", s, len(list))
		}
	}
}

// P6.2

func TestIndexesInOrder(t *testing.T) {
	for _, s := range shapes() {
		list := indexesOf(s)
		for n, i := range list {
			indexIs(t, s, i, n, api.OK)
			atIs(t, s, n, i, api.OK)
		}
		if !sameLists(walked(t, s), list) {
			t.Errorf("All(%v) is not in order", s)
		}
		if t.Failed() {
			return
		}
	}
	indexIs(t, []int{2, 3}, []int{1, 2}, 5, api.OK)
	atIs(t, []int{2, 3}, 5, []int{1, 2}, api.OK)
}

func TestIndexIsTheSumOfNumbersTimesStrides(t *testing.T) {
	m := mixer.Mixer(62)
	for _, s := range great() {
		strides := stridesOf(s)
		for range 200 {
			i, sum := make([]int, len(s)), 0
			for k, d := range s {
				i[k] = m.Below(d)
				sum += i[k] * strides[k]
			}
			indexIs(t, s, i, sum, api.OK)
		}
	}
}

func TestFirstAndLastPlace(t *testing.T) {
	for _, s := range shapes() {
		count := int(productOf(s).Int64())
		last := slices.Clone(s)
		for k := range last {
			last[k]--
		}
		indexIs(t, s, make([]int, len(s)), 0, api.OK)
		indexIs(t, s, last, count-1, api.OK)
		atIs(t, s, 0, make([]int, len(s)), api.OK)
		atIs(t, s, count-1, last, api.OK)
		for _, n := range []int{count, count + 1, 2 * count, -1, -count, 65536, 1 << 32, 1<<32 + 1, math.MaxInt, math.MinInt} {
			atIs(t, s, n, nil, api.ErrShape)
		}
	}
}

func TestNoIndexes(t *testing.T) {
	for _, s := range shapes() {
		nought := make([]int, len(s))
		indexIs(t, s, append(slices.Clone(nought), 0), 0, api.ErrShape)
		indexIs(t, s, make([]int, 4096), 0, api.ErrShape)
		if len(s) > 0 {
			indexIs(t, s, nil, 0, api.ErrShape)
			indexIs(t, s, nought[1:], 0, api.ErrShape)
		}
		for k, d := range s {
			for _, x := range []int{-1, -d, d, d + 1, 1 << 32, math.MaxInt, math.MinInt} {
				i := slices.Clone(nought)
				i[k] = x
				indexIs(t, s, i, 0, api.ErrShape)
			}
		}
	}
	indexIs(t, []int{2, 3}, []int{0, 3}, 0, api.ErrShape) // its sum would be that of [1 0]
	indexIs(t, []int{2, 3}, []int{1, -1}, 0, api.ErrShape)
	indexIs(t, []int{2, 3}, []int{2, -3}, 0, api.ErrShape)
}

func TestAllOfTheEmptyShape(t *testing.T) {
	for _, s := range [][]int{nil, {}} {
		if list := walked(t, s); len(list) != 1 || len(list[0]) != 0 {
			t.Errorf("All(%v): %v", s, list)
		}
	}
}

func TestAllLeftEarly(t *testing.T) {
	all := shape.All([]int{2, 3})
	for most := 1; most <= 6; most++ {
		var got [][]int
		for n, i := range all {
			got = append(got, i)
			if n+1 == most {
				break
			}
		}
		if !sameLists(got, indexesOf([]int{2, 3})[:most]) {
			t.Errorf("left at %d: %v", most, got)
		}
	}
	asked := 0
	all(func(int, []int) bool {
		asked++
		return asked < 4
	})
	if asked != 4 {
		t.Errorf("asked %d times, for 3 that wanted more", asked)
	}
}

func TestAllGoneThroughTwiceAndWithinItself(t *testing.T) {
	s := []int{2, 1, 3}
	want := indexesOf(s)
	all := shape.All(s)
	for n, i := range all {
		for k, j := range all {
			if !slices.Equal(j, want[k]) {
				t.Fatalf("within: %d: %v", k, j)
			}
			j[0] = 99
		}
		if !slices.Equal(i, want[n]) {
			t.Fatalf("%d: %v", n, i)
		}
	}
	var again [][]int
	for _, i := range all {
		again = append(again, i)
	}
	if !sameLists(again, want) {
		t.Errorf("again: %v", again)
	}
}

// R2: what was handed in may change behind the call, what was told may be written to.

func TestAllKeepsNothingOfTheCaller(t *testing.T) {
	s := []int{2, 3}
	all := shape.All(s)
	s[0], s[1] = 0, math.MaxInt
	var got [][]int
	for _, i := range all {
		s[0]++
		got = append(got, slices.Clone(i))
		for k := range i {
			i[k] = 77
		}
		_ = append(i, 78, 79)
	}
	if !sameLists(got, indexesOf([]int{2, 3})) {
		t.Errorf("All of a list that changes: %v", got)
	}
	no := []int{0, 3}
	all = shape.All(no)
	no[0] = 2
	for n, i := range all {
		t.Errorf("All of what was none: %d, %v", n, i)
	}
}

func TestListsOfAllAreTheirOwn(t *testing.T) {
	list := walked(t, []int{2, 2, 2})
	for k, i := range list {
		for x := range i[:cap(i)] {
			i[:cap(i)][x] = 100 + k
		}
	}
	for k, i := range list {
		if !slices.Equal(i, []int{100 + k, 100 + k, 100 + k}) {
			t.Errorf("list %d: %v", k, i)
		}
	}
}

func TestArgumentsStayAndAnswersAreNew(t *testing.T) {
	for _, a := range [][]int{{2, 3, 4}, {3, 4}, {1, 3, 1}, {4}} {
		room := append(slices.Clone(a), 5, 6, 7)
		given, other := room[:len(a)], []int{2, 3, 4}
		first, _ := shape.Strides(given)
		second, _ := shape.Spread(given, other)
		third, _ := shape.Spread(other, given)
		fourth, _ := shape.Spread(given, given)
		at, _ := shape.At(given, 1)
		for k, told := range [][]int{first, second, third, fourth, at} {
			for x := range told[:cap(told)] {
				told[:cap(told)][x] = -1 - k
			}
		}
		for k, told := range [][]int{first, second, third, fourth, at} {
			if len(told) == 0 || slices.Min(told) != -1-k || slices.Max(told) != -1-k {
				t.Errorf("answer %d of %v shares: %v", k, a, told)
			}
		}
		if !slices.Equal(room[:len(a)], a) || !slices.Equal(room[len(a):], []int{5, 6, 7}) || !slices.Equal(other, []int{2, 3, 4}) {
			t.Errorf("changed: %v, %v", room, other)
		}
		if i := make([]int, len(a)); shape.Check(given) == api.OK {
			shape.Index(given, i)
			shape.Under(given, other, []int{1, 2, 3})
			if !slices.Equal(i, make([]int, len(a))) || !slices.Equal(given, a) {
				t.Errorf("changed: %v, %v", i, given)
			}
		}
	}
}

// P6.3

// spreadOf lays both under one another by filling the shorter one up with ones.
func spreadOf(a, b []int) ([]int, api.Errno) {
	for len(a) < len(b) {
		a = append([]int{1}, a...)
	}
	for len(b) < len(a) {
		b = append([]int{1}, b...)
	}
	var both []int
	for k := range a {
		if a[k] != b[k] && a[k] != 1 && b[k] != 1 {
			return nil, api.ErrShape
		}
		both = append(both, max(a[k], b[k]))
	}
	if !isShape(both) {
		return nil, api.ErrBudget
	}
	return both, api.OK
}

func TestSpread(t *testing.T) {
	list := shapes()
	for _, a := range list {
		for _, b := range list {
			want, wantE := spreadOf(a, b)
			got, e := shape.Spread(a, b)
			listIs(t, "Spread", [][]int{a, b}, got, e, want, wantE)
		}
	}
	spreadIs(t, []int{3, 1}, []int{4}, []int{3, 4}, api.OK)
	spreadIs(t, nil, nil, nil, api.OK)
	spreadIs(t, nil, []int{2, 3}, []int{2, 3}, api.OK)
	spreadIs(t, []int{}, []int{1}, []int{1}, api.OK)
	spreadIs(t, []int{1}, []int{1, 1, 1, 1}, []int{1, 1, 1, 1}, api.OK)
	spreadIs(t, []int{2, 1, 3}, []int{5, 1}, []int{2, 5, 3}, api.OK)
	spreadIs(t, []int{7, 1, 6, 1}, []int{8, 1, 5}, []int{7, 8, 6, 5}, api.OK)
}

func TestSpreadOfWhatDoesNotFit(t *testing.T) {
	spreadIs(t, []int{2}, []int{3}, nil, api.ErrShape)
	spreadIs(t, []int{2, 3}, []int{2}, nil, api.ErrShape) // from the last on, not from the first
	spreadIs(t, []int{2, 3}, []int{3, 2}, nil, api.ErrShape)
	spreadIs(t, []int{2, 1, 1, 1}, []int{4, 1, 1, 1}, nil, api.ErrShape)
	spreadIs(t, []int{4, 1}, []int{2, 1}, nil, api.ErrShape) // that one divides the other does not help
	spreadIs(t, []int{4096}, []int{4095}, nil, api.ErrShape)
}

func TestSpreadThatIsNone(t *testing.T) {
	spreadIs(t, []int{4096, 1}, []int{16}, []int{4096, 16}, api.OK)
	spreadIs(t, []int{4096, 1}, []int{17}, nil, api.ErrBudget)
	spreadIs(t, []int{4096, 1}, []int{4096}, nil, api.ErrBudget)
	spreadIs(t, []int{1, 256, 1}, []int{257, 1, 1}, nil, api.ErrBudget)
	spreadIs(t, []int{16, 1, 16, 1}, []int{16, 1, 16}, []int{16, 16, 16, 16}, api.OK)
	spreadIs(t, []int{16, 1, 16, 1}, []int{17, 1, 16}, nil, api.ErrBudget)
	spreadIs(t, []int{4096, 1, 16, 1}, []int{4096, 1, 16}, nil, api.ErrBudget) // of 2^32 words
}

func TestDimensionsThatDifferComeAheadOfTheBudget(t *testing.T) {
	spreadIs(t, []int{4096, 1, 2}, []int{4096, 3}, nil, api.ErrShape)
	spreadIs(t, []int{2, 1, 4096}, []int{3, 4096, 1}, nil, api.ErrShape)
	spreadIs(t, []int{4096, 2, 1}, []int{3, 4096}, nil, api.ErrShape)
}

// underOf asks for the index's own numbers, from the last on.
func underOf(s, i []int) int {
	strides, sum := stridesOf(s), 0
	for back := 1; back <= len(s); back++ {
		if k := len(s) - back; s[k] != 1 {
			sum += i[len(i)-back] * strides[k]
		}
	}
	return sum
}

func TestUnder(t *testing.T) {
	list := append(small(3), []int{5}, []int{1, 5}, []int{5, 2}, []int{2, 5, 2})
	for _, s := range list {
		for _, to := range list {
			both, e := shape.Spread(s, to)
			fits := e == api.OK && slices.Equal(both, to)
			for n, i := range shape.All(to) {
				if fits {
					underIs(t, s, to, i, underOf(s, i), api.OK)
				} else {
					underIs(t, s, to, i, 0, api.ErrShape)
				}
				if n == 12 {
					break
				}
			}
		}
	}
	underIs(t, []int{3, 1}, []int{3, 4}, []int{2, 3}, 2, api.OK)
	underIs(t, []int{4}, []int{3, 4}, []int{2, 3}, 3, api.OK)
	underIs(t, nil, []int{3, 4}, []int{2, 3}, 0, api.OK)
	underIs(t, nil, nil, nil, 0, api.OK)
	underIs(t, []int{1, 1}, []int{4096, 16}, []int{4095, 15}, 0, api.OK)
	underIs(t, []int{4096, 16}, []int{4096, 16}, []int{4095, 15}, 65535, api.OK)
	underIs(t, []int{16, 1, 16}, []int{16, 16, 16, 16}, []int{3, 15, 14, 13}, 15*16+13, api.OK)
}

func TestUnderOfWhatDoesNotSpreadSo(t *testing.T) {
	underIs(t, []int{3, 4}, []int{3, 1}, []int{2, 0}, 0, api.ErrShape)
	underIs(t, []int{3, 4}, []int{4}, []int{3}, 0, api.ErrShape)
	underIs(t, []int{1, 1}, []int{1}, []int{0}, 0, api.ErrShape) // the spread has an axis more
	underIs(t, []int{1}, nil, nil, 0, api.ErrShape)
	underIs(t, []int{2}, []int{3}, []int{0}, 0, api.ErrShape)
	underIs(t, []int{2}, []int{4}, []int{1}, 0, api.ErrShape) // a divisor is not under it
	underIs(t, []int{3, 2}, []int{3, 4}, []int{0, 0}, 0, api.ErrShape)
	underIs(t, []int{2}, []int{2, 3}, []int{0, 0}, 0, api.ErrShape)
	underIs(t, []int{4096, 1}, []int{4096}, []int{0}, 0, api.ErrShape) // the spread is none
	underIs(t, []int{4096}, []int{4096, 1}, []int{0, 0}, 0, api.ErrShape)
}

func TestUnderOfNoIndex(t *testing.T) {
	for _, to := range [][]int{nil, {4}, {3, 4}, {2, 3, 4}, {5, 2, 3, 4}} {
		for _, s := range [][]int{nil, {1}, {4}, {3, 4}, {3, 1}, {2, 1, 1}} {
			nought := make([]int, len(to))
			underIs(t, s, to, append(slices.Clone(nought), 0), 0, api.ErrShape)
			for k, d := range to {
				underIs(t, s, to, nought[1:], 0, api.ErrShape)
				for _, x := range []int{-1, d, math.MaxInt, math.MinInt} { // even where s has 1 or nothing there
					i := slices.Clone(nought)
					i[k] = x
					underIs(t, s, to, i, 0, api.ErrShape)
				}
			}
		}
	}
}

// P6.4

func TestIndexAndAtUndoEachOther(t *testing.T) {
	for _, s := range great() {
		for n, i := range shape.All(s) {
			at, e := shape.At(s, n)
			back, backE := shape.Index(s, at)
			if e != api.OK || backE != api.OK || back != n || !slices.Equal(at, i) {
				t.Fatalf("%v: %d, %v, %d", s, n, at, back)
			}
		}
	}
}

func TestSpreadGoesBothWaysAndWithItselfChangesNothing(t *testing.T) {
	m := mixer.Mixer(64)
	list := shapes()
	for range 2000 {
		a, b := list[m.Below(len(list))], list[m.Below(len(list))]
		there, e := shape.Spread(a, b)
		back, backE := shape.Spread(b, a)
		if e != backE || !slices.Equal(there, back) {
			t.Errorf("Spread of %v, %v: %v, %v; %v, %v", a, b, there, e, back, backE)
		}
		if e != api.OK {
			continue
		}
		again, e := shape.Spread(there, a)
		if e != api.OK || !slices.Equal(again, there) {
			t.Errorf("Spread of %v, %v once more: %v, %v", there, a, again, e)
		}
	}
	for _, s := range list {
		spreadIs(t, s, s, s, api.OK)
		spreadIs(t, s, nil, s, api.OK)
		for n, i := range shape.All(s) {
			underIs(t, s, s, i, n, api.OK)
			if n == 100 {
				break
			}
		}
	}
}
