package attn_test

import (
	"math"
	"slices"
	"testing"

	"ratchet/api"
	"ratchet/attn"
	"ratchet/mixer"
	"ratchet/sample"
)

const most = sample.Most

var of, row, filled = sample.Of, sample.Row, sample.Filled

func ones(n int) []int { return slices.Repeat([]int{1}, n) }

// masks lets about one of many places through, and one of each row in any case, by numbers of all kinds.
func masks(m *mixer.Mixer, rows, length, many int) []int {
	kinds := []int{1, -1, 2, 7, -300, math.MaxInt, math.MinInt, 1 << 32}
	mask := make([]int, rows*length)
	for n := range mask {
		if m.Below(many) == 0 {
			mask[n] = kinds[m.Below(len(kinds))]
		}
	}
	for from := 0; from < len(mask); from += length {
		mask[from+m.Below(length)] = kinds[m.Below(len(kinds))]
	}
	return mask
}

// A trio is what a head is handed beside f.
type trio struct {
	q, k, v api.Tensor
	mask    []int
}

func (a trio) is(t *testing.T, f int, want api.Tensor, wantE api.Errno) {
	t.Helper()
	got, e := attn.Head(a.q, a.k, a.v, a.mask, f)
	if e != wantE || !sample.Same(got, want) || e != api.OK && !sample.IsZero(got) {
		t.Errorf("Head of %v, %d: %v, %v; want %v, %v", a, f, got, e, want, wantE)
	}
}

func (a trio) refused(t *testing.T, f int, want api.Errno) {
	t.Helper()
	a.is(t, f, api.Tensor{}, want)
}

func (a trio) holds(t *testing.T, f int) api.Errno {
	t.Helper()
	want, e := head(t, a.q, a.k, a.v, a.mask, f)
	a.is(t, f, want, e)
	return e
}

// A size is how many rows q has, and k and v, and how many words a row of q and k has, and of v.
type size struct{ t, s, d, e int }

func sizes() []size {
	return []size{{1, 1, 1, 1}, {1, 2, 1, 1}, {2, 1, 1, 1}, {1, 1, 2, 1}, {1, 1, 1, 2}, {2, 3, 4, 5}, {5, 4, 3, 2}, {3, 3, 3, 3}, {1, 7, 2, 3}, {7, 1, 3, 2}, {4, 6, 1, 2}, {6, 4, 2, 1}, {2, 5, 7, 1}, {3, 2, 16, 2}, {2, 9, 5, 4}}
}

// trioOf has rows of q and k of up to so many bits, and v's of others.
func trioOf(m *mixer.Mixer, z size, bits, others int) trio {
	return trio{sample.Tensor(m, []int{z.t, z.d}, bits), sample.Tensor(m, []int{z.s, z.d}, bits), sample.Tensor(m, []int{z.s, z.e}, others), masks(m, z.t, z.s, 1+m.Below(3))}
}

func filledTrio(z size, q, k, v int64) trio {
	return trio{filled([]int{z.t, z.d}, q), filled([]int{z.s, z.d}, k), filled([]int{z.s, z.e}, v), ones(z.t * z.s)}
}

// An attention is what Attend is handed beside f: w are the four weights, q's, k's, v's and the last one.
type attention struct {
	x     api.Tensor
	w     [4]api.Tensor
	heads int
	mask  []int
}

func (a attention) is(t *testing.T, f int, want api.Tensor, wantE api.Errno) {
	t.Helper()
	got, e := attn.Attend(a.x, a.w[0], a.w[1], a.w[2], a.w[3], a.heads, a.mask, f)
	if e != wantE || !sample.Same(got, want) || e != api.OK && !sample.IsZero(got) {
		t.Errorf("Attend of %v, %d: %v, %v; want %v, %v", a, f, got, e, want, wantE)
	}
}

func (a attention) refused(t *testing.T, f int, want api.Errno) {
	t.Helper()
	a.is(t, f, api.Tensor{}, want)
}

func (a attention) holds(t *testing.T, f int) api.Errno {
	t.Helper()
	want, e := attend(t, a, f)
	a.is(t, f, want, e)
	return e
}

func attentionOf(m *mixer.Mixer, rows, d, heads, bits, others int) attention {
	a := attention{x: sample.Tensor(m, []int{rows, d}, bits), heads: heads, mask: masks(m, rows, rows, 1+m.Below(3))}
	for n := range a.w {
		a.w[n] = sample.Tensor(m, []int{d, d}, others)
	}
	return a
}

func filledAttention(rows, d, heads int, x int64, w [4]int64) attention {
	a := attention{x: filled([]int{rows, d}, x), heads: heads, mask: ones(rows * rows)}
	for n := range a.w {
		a.w[n] = filled([]int{d, d}, w[n])
	}
	return a
}

// diagonal has a word on its diagonal, and 0 else.
func diagonal(d int, v int64) api.Tensor {
	a := filled([]int{d, d}, 0)
	for n := range d {
		a.Data[n*d+n] = v
	}
	return a
}

func divisors(d int) []int {
	var list []int
	for heads := 1; heads <= d; heads++ {
		if d%heads == 0 {
			list = append(list, heads)
		}
	}
	return list
}

// P15.1

func TestExamples(t *testing.T) {
	a := trio{of([]int{1, 1}, 0), of([]int{2, 1}, 5, 9), of([]int{2, 1}, 256, 512), []int{1, 1}}
	a.is(t, 8, of([]int{1, 1}, 384), api.OK)
	a.mask = []int{0, 1}
	a.is(t, 8, of([]int{1, 1}, 512), api.OK)
}

func TestHeadsByHand(t *testing.T) {
	q, k := of([]int{1, 4}, 512, 0, 0, 0), of([]int{2, 4}, 256, 0, 0, 0, 0, 256, 0, 0) // 2 and 0, and half of that: 187 and 69
	trio{q, k, of([]int{2, 2}, 256, 0, 0, 256), ones(2)}.is(t, 8, of([]int{1, 2}, 187, 69), api.OK)
	trio{q, k, of([]int{2, 2}, 512, -256, 0, 768), ones(2)}.is(t, 8, of([]int{1, 2}, 374, 20), api.OK)
	trio{q, k, of([]int{2, 1}, 256, 0), ones(2)}.is(t, 8, of([]int{1, 1}, 187), api.OK)
	q, k = of([]int{1, 1}, 256), of([]int{2, 1}, 256, 0) // the root of 1 is 1
	trio{q, k, of([]int{2, 2}, 256, 0, 0, 256), ones(2)}.is(t, 8, of([]int{1, 2}, 187, 69), api.OK)
	q, k = of([]int{1, 2}, 256, 0), of([]int{2, 2}, 256, 77, 0, -77) // 181 words: 0.66974 and the rest
	trio{q, k, of([]int{2, 2}, 256, 0, 0, 256), ones(2)}.is(t, 8, of([]int{1, 2}, 171, 85), api.OK)
}

func TestEachRowHasItsOwnMask(t *testing.T) {
	q, k := of([]int{2, 1}, 256, -256), of([]int{3, 1}, 256, 0, 7)
	v := of([]int{3, 1}, 256, 0, 768)
	trio{q, k, v, []int{1, 1, 0, 1, 1, 0}}.is(t, 8, of([]int{2, 1}, 187, 69), api.OK)
	trio{q, k, v, []int{1, 0, 0, 0, 0, 1}}.is(t, 8, of([]int{2, 1}, 256, 768), api.OK)
	trio{q, k, v, []int{0, 1, 0, 1, -5, 0}}.is(t, 8, of([]int{2, 1}, 0, 69), api.OK)
}

func TestHeadsOfAllSizesAndFractions(t *testing.T) {
	m := mixer.Mixer(151)
	for f := api.MinF; f <= api.MaxF; f++ {
		told := 0
		for _, z := range sizes() {
			for _, bits := range []int{3, f, f + 3, (46 + f) / 2, 40, 47} { // from scores that are all alike to ones that are no words
				for _, others := range []int{3, f, 46, 47} {
					if trioOf(&m, z, bits, others).holds(t, f) == api.OK {
						told++
					}
				}
			}
		}
		if told < 150 {
			t.Errorf("%d: only %d tell words", f, told)
		}
	}
}

func TestRootsOfAllLengths(t *testing.T) {
	m := mixer.Mixer(152)
	for _, f := range []int{8, 11, 20, 32} {
		for _, d := range []int{1, 2, 3, 4, 5, 6, 7, 8, 9, 10, 15, 16, 17, 63, 64, 65, 255, 256, 257, 1000, 4095, 4096} {
			a := trioOf(&m, size{2, 4, d, 3}, f, f)
			a.holds(t, f)
			for n := range 8 { // scores that are some words apart, as many as the root divides
				a.q.Data[n/4*d], a.k.Data[n/2*d] = int64(n+1)<<(f-2), int64(n-3)<<f
			}
			clear(a.q.Data[1:d])
			a.holds(t, f)
		}
	}
}

func TestAllOfASum(t *testing.T) {
	for f := api.MinF; f <= api.MaxF; f++ {
		a := filledTrio(size{3, 4, 2, 2}, 5, -9, 3<<f)
		a.is(t, f, filled([]int{3, 2}, 3<<f), api.OK) // a quarter of each
		for _, n := range []int{3, 6, 10} {
			filledTrio(size{2, n, 2, 2}, 5, -9, 3<<f).holds(t, f)
		}
	}
	filledTrio(size{1, 6, 1, 1}, 0, 0, 256).is(t, 8, of([]int{1, 1}, 258), api.OK) // a sixth is 43 words
	filledTrio(size{1, 3, 1, 1}, 0, 0, 256).is(t, 8, of([]int{1, 1}, 255), api.OK)
	filledTrio(size{1, 600, 1, 1}, 0, 0, most).is(t, 8, of([]int{1, 1}, 0), api.OK) // less than a half each
}

func TestOnePlaceInEachRowTellsItsRow(t *testing.T) {
	m := mixer.Mixer(153)
	for _, z := range sizes() {
		for _, f := range []int{8, 17, 32} {
			a := trioOf(&m, z, 15, 47)
			want := api.Tensor{Shape: []int{z.t, z.e}}
			clear(a.mask)
			for n := range z.t {
				at := m.Below(z.s)
				a.mask[n*z.s+at] = -1 + 2*m.Below(2)
				want.Data = append(want.Data, a.v.Data[at*z.e:][:z.e]...)
			}
			a.is(t, f, want, api.OK)
		}
	}
}

func TestHeadsOfAsManyWordsAsThereMayBe(t *testing.T) {
	filledTrio(size{4096, 16, 1, 16}, 77, -9, 512).is(t, 8, filled([]int{4096, 16}, 512), api.OK)
	filledTrio(size{16, 4, 4096, 4096}, 3, 7, -most).is(t, 32, filled([]int{16, 4096}, -most), api.OK)
	filledTrio(size{16, 4096, 16, 16}, -1, 1, 1<<20).is(t, 12, filled([]int{16, 16}, 1<<20), api.OK)
	filledTrio(size{256, 256, 1, 256}, 9, 9, 12345).is(t, 8, filled([]int{256, 256}, 12345), api.OK)
}

func TestHeadsOverflow(t *testing.T) {
	filledTrio(size{2, 2, 1, 1}, most, 257, 0).refused(t, 8, api.ErrOver)
	filledTrio(size{2, 2, 1, 1}, most, -256, 9).is(t, 8, of([]int{2, 1}, 9, 9), api.OK)
	filledTrio(size{1, 1, 4, 1}, 1<<31, 1<<22, 0).refused(t, 8, api.ErrOver) // half of it would be a word
	filledTrio(size{1, 1, 4, 1}, 1<<31, 1<<22-1, 5).is(t, 8, of([]int{1, 1}, 5), api.OK)
	filledTrio(size{2, 6, 3, 2}, 1, 1, most).refused(t, 8, api.ErrOver) // six sixths are more than 1
	filledTrio(size{2, 6, 3, 2}, 1, 1, -most).refused(t, 8, api.ErrOver)
	filledTrio(size{2, 3, 3, 2}, 1, 1, most).is(t, 8, filled([]int{2, 2}, most/256*255+254), api.OK)
	for n := range 6 { // any one score, that of a place without mask, too
		a := filledTrio(size{2, 3, 1, 1}, 256, 256, 0)
		a.q.Data[n/3], a.k.Data[n%3] = most, 300
		a.refused(t, 8, api.ErrOver)
		a.mask[n] = 0
		a.refused(t, 8, api.ErrOver)
	}
}

func TestHeadsThatHaveNoShape(t *testing.T) {
	long := filledTrio(size{4096, 17, 1, 1}, most, most, most) // scores
	long.refused(t, 8, api.ErrBudget)
	filledTrio(size{17, 4096, 2, 1}, most, most, most).refused(t, 8, api.ErrBudget)
	filledTrio(size{257, 256, 1, 1}, 0, 0, 0).refused(t, 32, api.ErrBudget)
	filledTrio(size{4096, 4096, 1, 16}, 0, 0, 0).refused(t, 8, api.ErrBudget)
	broad := filledTrio(size{4096, 1, 1, 17}, 0, 0, most) // the answer
	broad.refused(t, 8, api.ErrBudget)
	filledTrio(size{17, 2, 1, 4096}, 1, 1, 1).refused(t, 8, api.ErrBudget)
	broad.q.Data[4095], broad.k.Data[0] = most, 512 // scores come first
	broad.refused(t, 8, api.ErrOver)
	for _, a := range []trio{long, broad} { // and the mask ahead of them
		clear(a.mask[len(a.mask)-len(a.mask)/4096:])
		a.refused(t, 8, api.ErrShape)
		a.mask = a.mask[1:]
		a.refused(t, 8, api.ErrShape)
	}
}

func TestShapesOfHeadsThatDoNotGoTogether(t *testing.T) {
	two, wide, long := []int{2, 2}, []int{2, 3}, []int{3, 2}
	for _, s := range [][3][]int{
		{nil, two, two}, {two, nil, two}, {two, two, nil}, {nil, nil, nil}, {{4}, two, two}, {two, {4}, two}, {two, two, {4}}, {{2}, {2}, {2}},
		{{1, 2, 2}, two, two}, {{2, 2, 1}, two, two}, {two, {1, 2, 2}, two}, {two, {2, 2, 1}, two}, {two, two, {1, 2, 2}}, {two, two, {2, 2, 1}}, {{1, 2, 2}, {1, 2, 2}, {1, 2, 2}}, {{2, 2, 1, 1}, two, two}, {two, two, {2, 2, 1, 1}}, {{1, 1, 2, 2}, {1, 1, 2, 2}, {1, 1, 2, 2}},
		{wide, two, two}, {two, wide, two}, {long, wide, two}, {{2, 1}, two, two}, {two, {2, 1}, two},
		{two, two, long}, {two, long, two}, {two, two, {1, 2}}, {two, {1, 2}, two}, {two, long, wide},
	} {
		for _, v := range []int64{1, most} {
			for _, n := range []int{1, 2, 3, 4, 6, 9} {
				trio{filled(s[0], v), filled(s[1], v), filled(s[2], v), ones(n)}.refused(t, 8, api.ErrShape)
			}
		}
	}
}

func TestMasksOfHeadsThatDoNotFit(t *testing.T) {
	for _, z := range sizes() {
		a, n := filledTrio(z, most, most, most), z.t*z.s
		for _, mask := range [][]int{nil, {}, ones(n - 1), ones(n + 1), ones(2 * n), ones(n + z.s), make([]int, n), make([]int, n+1), make([]int, 3*n)} {
			a.mask = mask
			a.refused(t, 8, api.ErrShape)
		}
		for at := range z.t {
			a.mask = ones(n)
			clear(a.mask[at*z.s:][:z.s])
			a.refused(t, 8, api.ErrShape)
		}
	}
	a := filledTrio(size{3, 2, 1, 1}, 1, 1, 7)
	a.mask = []int{1, 0, 0, 0, 0, 1}
	a.refused(t, 8, api.ErrShape)
	a = filledTrio(size{2, 3, 1, 1}, 1, 1, 7)
	a.mask = []int{1, 0, 0, 0, 0, 1}
	a.is(t, 8, of([]int{2, 1}, 7, 7), api.OK)
}

func TestHeadsOfNoTensors(t *testing.T) {
	good, none := of([]int{1, 1}, most), of(nil, 3)
	for _, bad := range sample.NoTensors() {
		for _, a := range []trio{{bad, good, good, ones(1)}, {good, bad, good, ones(1)}, {good, good, bad, ones(1)}, {bad, bad, bad, nil}, {bad, none, none, nil}, {none, bad, none, nil}, {none, none, bad, nil}} {
			a.refused(t, 8, api.ErrForm)
			a.refused(t, 33, api.ErrForm)
		}
	}
	trio{}.refused(t, 8, api.ErrForm)
	trio{good, good, good, []int{1}}.refused(t, 8, api.ErrOver)
}

func TestHeadsOfNoWords(t *testing.T) {
	for _, v := range sample.NoWords() {
		for n := range 6 {
			a := filledTrio(size{2, 2, 3, 2}, most, most, most)
			list := []api.Tensor{a.q, a.k, a.v}[n%3].Data
			list[(len(list)-1)*(n/3)] = v
			a.refused(t, 8, api.ErrForm)
			a.mask = nil
			a.refused(t, 8, api.ErrForm)
		}
	}
}

func TestHeadsOfNoCounts(t *testing.T) {
	for _, f := range sample.NoCounts() {
		for _, a := range []trio{filledTrio(size{2, 2, 2, 2}, 1, 1, 1), filledTrio(size{1, 2, 1, 1}, most, most, most), {of(nil, 1), row(1), row(1, 2), nil}, {of([]int{1, 1}, 1), of([]int{1, 1}, 1), of([]int{1, 1}, 1), []int{0}}, filledTrio(size{4096, 17, 1, 1}, 1, 1, 1)} {
			a.refused(t, f, api.ErrForm)
		}
	}
}

// P15.2

func TestAttentionOfAllSizesAndFractions(t *testing.T) {
	m := mixer.Mixer(154)
	for f := api.MinF; f <= api.MaxF; f++ {
		told := 0
		for _, rows := range []int{1, 2, 5} {
			for _, d := range []int{1, 2, 3, 4, 6, 8} {
				for _, heads := range divisors(d) {
					for _, bits := range []int{f - 3, f + 2, (46 + f) / 2} {
						for _, others := range []int{f, f + 3} {
							if attentionOf(&m, rows, d, heads, bits, others).holds(t, f) == api.OK {
								told++
							}
						}
					}
				}
			}
		}
		if told < 100 {
			t.Errorf("%d: only %d tell words", f, told)
		}
	}
}

func TestAttentionByHand(t *testing.T) {
	one := diagonal(2, 256)
	a := attention{of([]int{2, 2}, 256, 0, 0, 256), [4]api.Tensor{one, one, one, one}, 2, ones(4)}
	a.is(t, 8, of([]int{2, 2}, 187, 128, 128, 187), api.OK) // a head sees one column: 1 and 0, of which each row is the scale
	a.heads = 1
	a.is(t, 8, of([]int{2, 2}, 171, 85, 85, 171), api.OK) // 1 over the root of 2 on the diagonal
	a.w[2] = of([]int{2, 2}, 0, 512, 256, 0)
	a.is(t, 8, of([]int{2, 2}, 85, 342, 171, 170), api.OK)
	a.w[2], a.w[3] = one, of([]int{2, 2}, 0, 512, 256, 0)
	a.is(t, 8, of([]int{2, 2}, 85, 342, 171, 170), api.OK)
	a.w[0] = diagonal(2, 0)
	a.is(t, 8, of([]int{2, 2}, 128, 256, 128, 256), api.OK)
}

// Where a row has one place alone, heads change nothing: it is that row by v's weights, and by the last ones.
func TestOnePlaceInEachRowTellsThatRowsProducts(t *testing.T) {
	m := mixer.Mixer(155)
	for _, rows := range []int{1, 3, 6} {
		for _, d := range []int{1, 4, 12} {
			for _, heads := range divisors(d) {
				a := attentionOf(&m, rows, d, heads, 12, 12)
				clear(a.mask)
				var picks api.Tensor
				picks.Shape = a.x.Shape
				for n := range rows {
					at := m.Below(rows)
					a.mask[n*rows+at] = math.MinInt
					picks.Data = append(picks.Data, a.x.Data[at*d:][:d]...)
				}
				v, _ := product(picks, a.w[2], 10)
				want, _ := product(v, a.w[3], 10)
				a.is(t, 10, want, api.OK)
			}
		}
	}
}

func TestAttentionOfAsManyWordsAsThereMayBe(t *testing.T) {
	equal := filledAttention(256, 16, 2, 256, [4]int64{1, 1, 16, 16})
	equal.is(t, 8, equal.x, api.OK)
	one := diagonal(256, 256)
	broad := attention{filled([]int{16, 256}, 5), [4]api.Tensor{one, one, one, one}, 256, ones(256)}
	broad.is(t, 8, broad.x, api.OK)
	mask := make([]int, 256*256)
	for n := range 256 {
		mask[n*256+n] = 1
	}
	m := mixer.Mixer(156)
	square := attention{sample.Tensor(&m, []int{256, 256}, 20), [4]api.Tensor{one, one, one, one}, 4, mask}
	square.is(t, 8, square.x, api.OK)
}

func TestAttentionOverflows(t *testing.T) {
	for n := range 4 {
		w := [4]int64{0, 0, 256, 256} // all scores are 0
		w[n] = 257
		a := filledAttention(2, 1, 1, most, w)
		a.refused(t, 8, api.ErrOver)
		a.w[n].Data[0] = 256
		a.is(t, 8, of([]int{2, 1}, most, most), api.OK)
	}
	one, none := diagonal(2, 256), diagonal(2, 0)
	for _, at := range []int{0, 1} { // the scores of one head alone
		x := of([]int{1, 2}, 1, 1)
		x.Data[at] = most
		attention{x, [4]api.Tensor{one, one, one, one}, 2, ones(1)}.refused(t, 8, api.ErrOver)
		attention{x, [4]api.Tensor{one, none, one, one}, 2, ones(1)}.is(t, 8, x, api.OK)
	}
	six := attention{filled([]int{6, 2}, most), [4]api.Tensor{none, none, one, one}, 2, ones(36)}
	six.refused(t, 8, api.ErrOver) // six sixths are more than 1
	six.w[2] = diagonal(2, 128)
	six.is(t, 8, filled([]int{6, 2}, (most+1)/2/256*258), api.OK)
}

func TestAttentionThatHasNoShape(t *testing.T) {
	long := filledAttention(257, 1, 1, 256, [4]int64{256, 256, 256, 256})
	long.refused(t, 8, api.ErrBudget)
	filledAttention(4096, 2, 2, 1, [4]int64{1, 1, 1, 1}).refused(t, 32, api.ErrBudget)
	filledAttention(257, 1, 1, 1024, [4]int64{256, 256, 256, most}).refused(t, 8, api.ErrBudget) // ahead of the last product
	for n := range 3 {
		a := filledAttention(257, 1, 1, 1024, [4]int64{1, 1, 1, 1})
		a.w[n].Data[0] = most
		a.refused(t, 8, api.ErrOver) // q, k and v are ahead of the heads
		clear(a.mask[256*257:])
		a.refused(t, 8, api.ErrShape)
	}
}

func TestShapesOfAttentionThatDoNotGoTogether(t *testing.T) {
	none := [][]int{nil, {2}, {4}, {1, 2, 2}, {2, 2, 1}, {1, 1, 2, 2}, {2, 1}, {2, 3}, {2, 4}}
	for _, v := range []int64{1, most} {
		for _, s := range none {
			for _, n := range []int{1, 2, 4, 9} {
				a := filledAttention(2, 2, 1, v, [4]int64{v, v, v, v})
				a.x, a.mask = filled(s, v), ones(n)
				a.refused(t, 8, api.ErrShape)
			}
		}
		for _, s := range append(none, []int{3, 2}, []int{1, 1}, []int{3, 3}, []int{4, 4}) {
			for n := range 4 {
				a := filledAttention(3, 2, 2, v, [4]int64{v, v, v, v})
				a.w[n] = filled(s, v)
				a.refused(t, 8, api.ErrShape)
			}
		}
	}
}

func TestNumbersOfHeadsThatAreNone(t *testing.T) {
	for _, d := range []int{1, 2, 3, 4, 6, 12} {
		for _, heads := range []int{0, -1, -2, -d, d + 1, 2 * d, 5, 7, 24, 1 << 32, math.MinInt, math.MaxInt} {
			if heads > 0 && d%heads == 0 {
				continue
			}
			for _, v := range []int64{1, most} {
				filledAttention(2, d, heads, v, [4]int64{v, v, v, v}).refused(t, 8, api.ErrShape)
			}
		}
	}
}

func TestMasksOfAttentionThatDoNotFit(t *testing.T) {
	for _, rows := range []int{1, 2, 5} {
		a, n := filledAttention(rows, 2, 2, most, [4]int64{most, most, most, most}), rows*rows
		for _, mask := range [][]int{nil, {}, ones(n - 1), ones(n + 1), ones(2 * n), ones(n + rows), make([]int, n), make([]int, 3*n)} {
			a.mask = mask
			a.refused(t, 8, api.ErrShape)
		}
		for at := range rows {
			a.mask = ones(n)
			clear(a.mask[at*rows:][:rows])
			a.refused(t, 8, api.ErrShape)
		}
	}
}

func TestAttentionOfNoTensors(t *testing.T) {
	for _, bad := range sample.NoTensors() {
		for n := range 5 {
			a := filledAttention(1, 1, 1, most, [4]int64{most, most, most, most})
			b := attention{x: of(nil, 1), w: [4]api.Tensor{row(1), row(1), row(1), row(1)}, heads: -1}
			if n == 4 {
				a.x, b.x = bad, bad
			} else {
				a.w[n], b.w[n] = bad, bad
			}
			a.refused(t, 8, api.ErrForm)
			b.refused(t, 8, api.ErrForm)
			b.refused(t, 7, api.ErrForm)
		}
	}
	attention{}.refused(t, 8, api.ErrForm)
}

func TestAttentionOfNoWords(t *testing.T) {
	for _, v := range sample.NoWords() {
		for n := range 10 {
			a := filledAttention(2, 2, 3, most, [4]int64{most, most, most, most})
			list := []api.Tensor{a.x, a.w[0], a.w[1], a.w[2], a.w[3]}[n%5].Data
			list[3*(n/5)] = v
			a.refused(t, 8, api.ErrForm)
		}
	}
}

func TestAttentionOfNoCounts(t *testing.T) {
	for _, f := range sample.NoCounts() {
		for _, heads := range []int{1, 2, 0, 3} {
			filledAttention(2, 2, heads, 1, [4]int64{1, 1, 1, 1}).refused(t, f, api.ErrForm)
			filledAttention(257, 2, heads, most, [4]int64{most, most, 1, 1}).refused(t, f, api.ErrForm)
			attention{of(nil, 1), [4]api.Tensor{row(1), row(1), row(1), row(1)}, heads, nil}.refused(t, f, api.ErrForm)
		}
	}
}

// P15.3

// spoilt has, where the mask of one row allows nothing, other rows of k and v.
func (a trio) spoilt(m *mixer.Mixer, at int) trio {
	z := size{a.q.Shape[0], a.k.Shape[0], a.q.Shape[1], a.v.Shape[1]}
	other, mask := trioOf(m, z, 18, 40), slices.Clone(a.mask)
	for n := range z.s {
		if mask[at*z.s+n] != 0 {
			copy(other.k.Data[n*z.d:][:z.d], a.k.Data[n*z.d:])
			copy(other.v.Data[n*z.e:][:z.e], a.v.Data[n*z.e:])
		}
	}
	for n := range mask {
		if n/z.s != at {
			mask[n] = other.mask[n]
		}
	}
	copy(other.q.Data[at*z.d:][:z.d], a.q.Data[at*z.d:])
	return trio{other.q, other.k, other.v, mask}
}

func TestARowHangsOnTheRowsThatItsMaskAllows(t *testing.T) {
	m := mixer.Mixer(157)
	for _, z := range sizes() {
		for _, f := range []int{8, 15, 16} {
			a := trioOf(&m, z, f+2, 40)
			want, e := attn.Head(a.q, a.k, a.v, a.mask, f)
			if e != api.OK {
				t.Fatalf("%v, %d: %v", a, f, e)
			}
			for at := range z.t {
				b := a.spoilt(&m, at)
				got, e := attn.Head(b.q, b.k, b.v, b.mask, f)
				if e != api.OK || !slices.Equal(got.Data[at*z.e:][:z.e], want.Data[at*z.e:][:z.e]) {
					t.Errorf("%v and %v, %d, row %d: %v, %v; want %v", a, b, f, at, got, e, want)
				}
			}
		}
	}
}

func TestLaterRowsChangeNothingOfEarlierOnes(t *testing.T) {
	m := mixer.Mixer(158)
	const rows, d, f = 6, 6, 12
	for _, heads := range divisors(d) {
		a := attentionOf(&m, rows, d, heads, 13, 13)
		for n := range a.mask {
			a.mask[n] = 0
			if n%rows <= n/rows {
				a.mask[n] = 1
			}
		}
		want, _ := attn.Attend(a.x, a.w[0], a.w[1], a.w[2], a.w[3], heads, a.mask, f)
		for from := range rows {
			x := sample.Tensor(&m, []int{rows, d}, 13)
			copy(x.Data[:from*d], a.x.Data)
			got, e := attn.Attend(x, a.w[0], a.w[1], a.w[2], a.w[3], heads, a.mask, f)
			if e != api.OK || !slices.Equal(got.Data[:from*d], want.Data[:from*d]) || slices.Equal(got.Data, want.Data) {
				t.Errorf("%d heads, from row %d on: %v, %v; want %v", heads, from, got, e, want)
			}
		}
	}
}

// order is the numbers from 0 to below n, one of them at each place.
func order(m *mixer.Mixer, n int) []int {
	list := make([]int, n)
	for k := range list {
		list[k] = k
	}
	for k := range list {
		at := m.Below(k + 1)
		list[k], list[at] = list[at], list[k]
	}
	return list
}

// inOrder is the rows of list, so long, in another order.
func inOrder[E any](list []E, length int, order []int) []E {
	var told []E
	for _, at := range order {
		told = append(told, list[at*length:][:length]...)
	}
	return told
}

func columnsInOrder(mask []int, order []int) []int {
	var told []int
	for row := range slices.Chunk(mask, len(order)) {
		told = append(told, inOrder(row, 1, order)...)
	}
	return told
}

func TestRowsInAnotherOrder(t *testing.T) {
	m := mixer.Mixer(159)
	for _, z := range sizes() {
		for _, f := range []int{8, 13, 32} {
			for _, others := range []int{f, 40, 47} { // ErrOver stays, too
				a := trioOf(&m, z, f+1, others)
				want, e := attn.Head(a.q, a.k, a.v, a.mask, f)
				for range 4 {
					o := order(&m, z.s)
					trio{a.q, of(a.k.Shape, inOrder(a.k.Data, z.d, o)...), of(a.v.Shape, inOrder(a.v.Data, z.e, o)...), columnsInOrder(a.mask, o)}.is(t, f, want, e)
				}
			}
		}
	}
}

func TestWholeRowsInAnotherOrder(t *testing.T) {
	m := mixer.Mixer(160)
	for _, heads := range []int{1, 2, 4} {
		for _, f := range []int{8, 19, 32} {
			const rows, d = 5, 4
			a := attentionOf(&m, rows, d, heads, f, f)
			got, e := attn.Attend(a.x, a.w[0], a.w[1], a.w[2], a.w[3], heads, a.mask, f)
			if e != api.OK {
				t.Fatalf("%v, %d: %v", a, f, e)
			}
			o := order(&m, rows)
			attention{of(a.x.Shape, inOrder(a.x.Data, d, o)...), a.w, heads, columnsInOrder(inOrder(a.mask, rows, o), o)}.is(t, f, of(got.Shape, inOrder(got.Data, d, o)...), api.OK)
		}
	}
}

// R1, R2

// stay is whether a call leaves the tensors and the mask as they are, tells the same twice, and each time what is its own.
func stay(t *testing.T, list []api.Tensor, mask []int, f int, want api.Tensor, wantE api.Errno, call func([]api.Tensor, []int, int) (api.Tensor, api.Errno)) {
	t.Helper()
	for range 2 { // the second time, after the answer of the first was spoiled
		var roomy []api.Tensor
		for _, a := range list {
			roomy = append(roomy, sample.Roomy(a.Shape, a.Data))
		}
		lets := sample.RoomyInts(mask)
		got, e := call(roomy, lets, f)
		for n, a := range list {
			if !sample.AsHandedIn(roomy[n], a.Shape, a.Data) || !sample.IntsAsHandedIn(lets, mask) {
				t.Errorf("handed in, now: %v, %v", roomy[n], lets)
			}
			sample.Spoil(roomy[n])
		}
		sample.SpoilInts(lets)
		if e != wantE || !sample.Same(got, want) {
			t.Errorf("%v, %v; want %v, %v", got, e, want, wantE)
		}
		sample.Spoil(got)
	}
}

func ofHead(list []api.Tensor, mask []int, f int) (api.Tensor, api.Errno) {
	return attn.Head(list[0], list[1], list[2], mask, f)
}

func ofAttend(heads int) func([]api.Tensor, []int, int) (api.Tensor, api.Errno) {
	return func(list []api.Tensor, mask []int, f int) (api.Tensor, api.Errno) {
		return attn.Attend(list[0], list[1], list[2], list[3], list[4], heads, mask, f)
	}
}

func TestNothingHandedInIsChangedOrKept(t *testing.T) {
	m := mixer.Mixer(161)
	for _, z := range sizes() {
		for _, f := range []int{8, 24} {
			for _, bits := range []int{f, 47} { // beside an error, too
				a := trioOf(&m, z, bits, f)
				want, e := head(t, a.q, a.k, a.v, a.mask, f)
				stay(t, []api.Tensor{a.q, a.k, a.v}, a.mask, f, want, e, ofHead)
				clear(a.mask[:z.s])
				stay(t, []api.Tensor{a.q, a.k, a.v}, a.mask, f, api.Tensor{}, api.ErrShape, ofHead)
				stay(t, []api.Tensor{a.q, a.k, a.v}, a.mask, 7, api.Tensor{}, api.ErrForm, ofHead)
				for _, heads := range divisors(z.d) {
					b := attentionOf(&m, z.t, z.d, heads, bits, f)
					list := append([]api.Tensor{b.x}, b.w[:]...)
					want, e := attend(t, b, f)
					stay(t, list, b.mask, f, want, e, ofAttend(heads))
					stay(t, list, b.mask, f, api.Tensor{}, api.ErrShape, ofAttend(-heads))
					stay(t, list, b.mask[1:], 33, api.Tensor{}, api.ErrForm, ofAttend(heads))
				}
			}
		}
	}
}

func TestOneTensorInAllPlaces(t *testing.T) {
	m := mixer.Mixer(162)
	for _, f := range []int{8, 20} {
		x := sample.Tensor(&m, []int{3, 3}, f+1)
		mask := masks(&m, 3, 3, 2)
		trio{x, x, x, mask}.holds(t, f)
		attention{x, [4]api.Tensor{x, x, x, x}, 3, mask}.holds(t, f)
	}
}

func TestAnEmptyMaskAndNoneAreOne(t *testing.T) {
	a := filledTrio(size{1, 1, 1, 1}, 1, 1, 1)
	for _, mask := range [][]int{nil, {}} {
		a.mask = mask
		a.refused(t, 8, api.ErrShape)
	}
}
