package embed_test

import (
	"math"
	"slices"
	"testing"

	"ratchet/api"
	"ratchet/embed"
	"ratchet/mixer"
	"ratchet/sample"
)

const most = sample.Most

var of, row, rising = sample.Of, sample.Row, sample.Rising

func rowsIs(t *testing.T, x api.Tensor, ids []int, want api.Tensor) {
	t.Helper()
	if got, e := embed.Rows(x, ids); e != api.OK || !sample.Same(got, want) {
		t.Errorf("Rows of %v, %v: %v, %v; want %v", x, ids, got, e, want)
	}
}

func rowsTells(t *testing.T, x api.Tensor, ids []int, want api.Errno) {
	t.Helper()
	if got, e := embed.Rows(x, ids); e != want || !sample.IsZero(got) {
		t.Errorf("Rows of %v, %d ids: %v, %v; want %v", x.Shape, len(ids), got, e, want)
	}
}

// named is what Rows tells, word by word.
func named(x api.Tensor, ids []int) api.Tensor {
	s := []int{len(ids), x.Shape[1]}
	want := sample.Filled(s, 0)
	for n, i := range sample.Indexes(s) {
		want.Data[n] = x.Data[sample.At(x.Shape, []int{ids[i[0]], i[1]})]
	}
	return want
}

func idsOf(m *mixer.Mixer, many, rows int) []int {
	list := make([]int, many)
	for n := range list {
		list[n] = m.Below(rows)
	}
	return list
}

func upTo(n int) []int {
	var list []int
	for k := range n {
		list = append(list, k)
	}
	return list
}

func tables() [][]int {
	return [][]int{{1, 1}, {1, 5}, {5, 1}, {2, 2}, {2, 3}, {3, 2}, {7, 4}, {1, 4096}, {4096, 1}, {16, 64}}
}

// P17.1

func TestRowsOfAllTables(t *testing.T) {
	m := mixer.Mixer(181)
	for _, s := range tables() {
		for _, many := range []int{1, 2, 3, 10, 16} {
			for range 5 {
				x, ids := sample.Tensor(&m, s, 47), idsOf(&m, many, s[0])
				rowsIs(t, x, ids, named(x, ids))
			}
		}
	}
}

func TestRowExamples(t *testing.T) {
	two := of([]int{2, 2}, 1, 2, 3, 4)
	rowsIs(t, two, []int{1, 0, 1}, of([]int{3, 2}, 3, 4, 1, 2, 3, 4))
	rowsIs(t, two, []int{0}, of([]int{1, 2}, 1, 2))
	rowsIs(t, two, []int{1}, of([]int{1, 2}, 3, 4))
	rowsIs(t, two, []int{1, 1, 1, 1}, of([]int{4, 2}, 3, 4, 3, 4, 3, 4, 3, 4))
	rowsIs(t, of([]int{2, 3}, 1, 2, 3, 4, 5, 6), []int{1}, of([]int{1, 3}, 4, 5, 6))
	rowsIs(t, of([]int{3, 2}, 1, 2, 3, 4, 5, 6), []int{2, 0}, of([]int{2, 2}, 5, 6, 1, 2))
	rowsIs(t, of([]int{3, 1}, 7, 8, 9), []int{2, 2, 1}, of([]int{3, 1}, 9, 9, 8))
	rowsIs(t, of([]int{1, 1}, -most), []int{0}, of([]int{1, 1}, -most))
	rowsIs(t, of([]int{2, 2}, most, -most, 0, most-1), []int{1, 0}, of([]int{2, 2}, 0, most-1, most, -most))
}

func TestEachRowAlone(t *testing.T) {
	for _, s := range tables() {
		x := rising(s)
		for n := range min(s[0], 40) {
			for _, id := range []int{n, s[0] - 1 - n} {
				rowsIs(t, x, []int{id}, of([]int{1, s[1]}, x.Data[id*s[1]:(id+1)*s[1]]...))
			}
		}
	}
}

func TestAsManyRowsAsThereMayBe(t *testing.T) {
	m := mixer.Mixer(182)
	for _, c := range []struct {
		s    []int
		many int
	}{
		{[]int{1, 1}, 4096}, {[]int{4096, 1}, 4096}, {[]int{3, 16}, 4096}, {[]int{4096, 16}, 4096}, {[]int{2, 15}, 4096}, {[]int{2, 17}, 3855}, {[]int{5, 255}, 257}, {[]int{256, 256}, 256}, {[]int{1, 4096}, 16}, {[]int{16, 4096}, 16},
	} {
		x, ids := sample.Tensor(&m, c.s, 47), idsOf(&m, c.many, c.s[0])
		rowsIs(t, x, ids, named(x, ids))
		rowsTells(t, x, slices.Repeat(ids, 2), api.ErrBudget)
	}
}

// Errors

func TestRowsThatHaveNoShape(t *testing.T) {
	m := mixer.Mixer(183)
	for _, c := range []struct {
		s    []int
		many int
	}{
		{[]int{1, 1}, 4097}, {[]int{4096, 1}, 4097}, {[]int{1, 1}, 1 << 16}, {[]int{2, 2}, 1<<16 + 1}, {[]int{2, 15}, 4097}, {[]int{3, 17}, 3856}, {[]int{3, 17}, 4096}, {[]int{5, 255}, 258}, {[]int{256, 256}, 257}, {[]int{2, 256}, 257}, {[]int{1, 4096}, 17}, {[]int{16, 4096}, 17}, {[]int{16, 4096}, 1 << 20},
	} {
		ids := idsOf(&m, c.many, c.s[0])
		rowsTells(t, rising(c.s), ids, api.ErrBudget)
		ids[m.Below(c.many)] = c.s[0] // an id that is none comes ahead
		rowsTells(t, rising(c.s), ids, api.ErrShape)
	}
}

func TestRowsOfOtherRanks(t *testing.T) {
	for _, s := range [][]int{nil, {}, {1}, {2}, {4096}, {1, 1, 1}, {2, 2, 1}, {1, 2, 2}, {2, 1, 2}, {1, 1, 1, 1}, {2, 2, 1, 1}, {16, 16, 16, 16}} {
		for _, ids := range [][]int{nil, {}, {0}, {0, 0}, {-1}, make([]int, 4097)} {
			rowsTells(t, rising(s), ids, api.ErrShape)
		}
	}
}

func TestRowsOfNoIDs(t *testing.T) {
	for _, s := range tables() {
		x := rising(s)
		rowsTells(t, x, nil, api.ErrShape)
		rowsTells(t, x, []int{}, api.ErrShape)
		for _, many := range []int{1, 2, 5} {
			for n := range many {
				for _, bad := range []int{-1, -2, -s[0], s[0], s[0] + 1, s[0] * s[1], 1 << 32, -1 << 32, math.MinInt, math.MaxInt} {
					ids := make([]int, many)
					ids[n] = bad
					rowsTells(t, x, ids, api.ErrShape)
				}
			}
		}
	}
}

func TestRowsTellOfNoTensorsFirst(t *testing.T) {
	for _, bad := range append(sample.NoTensors(), api.Tensor{}) {
		for _, ids := range [][]int{nil, {0}, {0, 0}, {-1}, {math.MaxInt}, make([]int, 4097)} {
			rowsTells(t, bad, ids, api.ErrForm)
		}
	}
	for _, s := range tables() {
		for _, v := range sample.NoWords() {
			x := rising(s)
			x.Data[len(x.Data)-1] = v // where no row is asked for
			rowsTells(t, x, []int{0}, api.ErrForm)
		}
	}
}

// P17.3

func TestRowsOfRowsAreRows(t *testing.T) {
	m := mixer.Mixer(184)
	for _, s := range tables() {
		for range 20 {
			x := sample.Tensor(&m, s, 47)
			ids := idsOf(&m, 1+m.Below(16), s[0])
			others := idsOf(&m, 1+m.Below(16), len(ids))
			var both []int
			for _, other := range others {
				both = append(both, ids[other])
			}
			first, e := embed.Rows(x, ids)
			want, g := embed.Rows(x, both)
			if e != api.OK || g != api.OK {
				t.Fatalf("%v, %v: %v, %v", s, ids, e, g)
			}
			rowsIs(t, first, others, want)
		}
	}
}

func TestAllRowsInOrderAreTheTable(t *testing.T) {
	m := mixer.Mixer(185)
	for _, s := range append(tables(), []int{4096, 16}, []int{16, 4096}) {
		x := sample.Tensor(&m, s, 47)
		rowsIs(t, x, upTo(s[0]), x)
	}
}

// R1, R2

func TestRowsNeitherChangeNorKeep(t *testing.T) {
	m := mixer.Mixer(186)
	for _, s := range tables() {
		for _, many := range []int{1, 3, 16} {
			words, ids := sample.Words(&m, sample.Count(s), 47), idsOf(&m, many, s[0])
			want := named(of(s, words...), ids)
			for range 2 { // the second time, after the answer of the first was spoiled
				x, roomy := sample.Roomy(s, words), sample.RoomyInts(ids)
				got, _ := embed.Rows(x, roomy)
				again, _ := embed.Rows(x, roomy)
				sample.Spoil(again)
				if !sample.AsHandedIn(x, s, words) || !sample.IntsAsHandedIn(roomy, ids) {
					t.Errorf("%v: handed in, now: %v, %v", s, x, roomy)
				}
				sample.Spoil(x)
				sample.SpoilInts(roomy)
				if !sample.Same(got, want) {
					t.Errorf("%v: %v, want %v", s, got, want)
				}
				sample.Spoil(got)
			}
		}
	}
}

func TestRowsChangeNothingBesideAnError(t *testing.T) {
	s, words := []int{2, 2}, []int64{most, -most, 1, 2}
	x := sample.Roomy(s, words)
	for _, c := range []struct {
		ids  []int
		want api.Errno
	}{{[]int{0, 2}, api.ErrShape}, {nil, api.ErrShape}, {make([]int, 4097), api.ErrBudget}} {
		roomy := sample.RoomyInts(c.ids)
		rowsTells(t, x, roomy, c.want)
		if !sample.AsHandedIn(x, s, words) || !sample.IntsAsHandedIn(roomy, c.ids) {
			t.Errorf("%v, %v", x, roomy)
		}
	}
}
