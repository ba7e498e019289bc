package embed_test

import (
	"math"
	"slices"
	"testing"

	"ratchet/api"
	"ratchet/elem"
	"ratchet/embed"
	"ratchet/fx"
	"ratchet/mixer"
	"ratchet/sample"
)

func dropIs(t *testing.T, x api.Tensor, mask []int, w int64, f int, want api.Tensor) {
	t.Helper()
	if got, e := embed.Drop(x, mask, w, f); e != api.OK || !sample.Same(got, want) {
		t.Errorf("Drop of %v, %v, %d, %d: %v, %v; want %v", x, mask, w, f, got, e, want)
	}
}

func dropTells(t *testing.T, x api.Tensor, mask []int, w int64, f int, want api.Errno) {
	t.Helper()
	if got, e := embed.Drop(x, mask, w, f); e != want || !sample.IsZero(got) {
		t.Errorf("Drop of %v, %d of mask, %d, %d: %v, %v; want %v", x.Shape, len(mask), w, f, got, e, want)
	}
}

// dropped is what Drop tells, word by word.
func dropped(x api.Tensor, mask []int, w int64, f int) (api.Tensor, api.Errno) {
	want := sample.Filled(x.Shape, 0)
	for n, v := range x.Data {
		if mask[n] != 0 {
			product, e := fx.Mul(v, w, f)
			if e != api.OK {
				return api.Tensor{}, e
			}
			want.Data[n] = product
		}
	}
	return want, api.OK
}

func dropHolds(t *testing.T, x api.Tensor, mask []int, w int64, f int) {
	t.Helper()
	if want, e := dropped(x, mask, w, f); e != api.OK {
		dropTells(t, x, mask, w, f, e)
	} else {
		dropIs(t, x, mask, w, f, want)
	}
}

// kinds are numbers by which a mask lets a word be.
func kinds() []int {
	return []int{1, -1, 2, 7, 256, 1 << 32, -1 << 32, 1 << 62, math.MinInt, math.MaxInt}
}

// keeps is a mask without noughts.
func keeps(m *mixer.Mixer, n int) []int {
	mask := make([]int, n)
	for k := range mask {
		mask[k] = kinds()[m.Below(len(kinds()))]
	}
	return mask
}

// masks lets about one word of many be dropped.
func masks(m *mixer.Mixer, n, many int) []int {
	mask := keeps(m, n)
	for k := range mask {
		if m.Below(many) == 0 {
			mask[k] = 0
		}
	}
	return mask
}

func ones(n int) []int { return slices.Repeat([]int{1}, n) }

// P17.2

func TestDropsOfAllShapesAndCounts(t *testing.T) {
	m := mixer.Mixer(187)
	for f := api.MinF; f <= api.MaxF; f++ {
		for _, s := range sample.Shapes() {
			n := sample.Count(s)
			if n > 100 && f%8 != 0 {
				continue
			}
			for _, bits := range []int{3, f, 46} {
				x := sample.Tensor(&m, s, bits)
				for _, w := range []int64{0, 1, -1, 1 << f, 1<<f + 1<<(f-2), -1 << f, sample.Words(&m, 1, f+1)[0], sample.Words(&m, 1, 47)[0]} {
					dropHolds(t, x, masks(&m, n, 2), w, f)
					dropHolds(t, x, masks(&m, n, 5), w, f)
				}
			}
		}
	}
}

func TestDropExamples(t *testing.T) {
	dropIs(t, row(256, 512, -384), []int{1, 0, 1}, 512, 8, row(512, 0, -768))
	dropIs(t, row(256, 512, -384), []int{0, 0, 0}, 512, 8, row(0, 0, 0))
	dropIs(t, row(256, 512, -384), []int{0, 1, 0}, -256, 8, row(0, -512, 0))
	dropIs(t, row(256, 512, -384), []int{1, 1, 1}, 0, 8, row(0, 0, 0))
	dropIs(t, of(nil, 300), []int{1}, 320, 8, of(nil, 375))
	dropIs(t, of(nil, 300), []int{0}, 320, 8, of(nil, 0))
	dropIs(t, of([]int{2, 2}, 1, 2, 3, 4), []int{0, 1, 1, 0}, 768, 8, of([]int{2, 2}, 0, 6, 9, 0))
	dropIs(t, of([]int{2, 2}, 1, 2, 3, 4), []int{1, 0, 0, 1}, 3<<32, 32, of([]int{2, 2}, 3, 0, 0, 12))
}

func TestHalvesGoToTheEvenOne(t *testing.T) {
	dropIs(t, row(1, 2, 3, 5, 7, -1, -3, -5, -7), ones(9), 128, 8, row(0, 1, 2, 2, 4, 0, -2, -2, -4))
	dropIs(t, row(1, 3, 5, 7), []int{1, 0, 0, 1}, -128, 8, row(0, 0, 0, -4))
	for f := api.MinF; f <= api.MaxF; f++ {
		dropIs(t, row(1, 3, 5, -1, -3, -5), ones(6), 1<<(f-1), f, row(0, 2, 2, 0, -2, -2))
		dropIs(t, row(1, 3, 5, -1, -3, -5), ones(6), 1<<(f-1)+1, f, row(1, 2, 3, -1, -2, -3))
		dropIs(t, row(1, 3, 5, -1, -3, -5), ones(6), 1<<(f-1)-1, f, row(0, 1, 2, 0, -1, -2))
	}
}

func TestAnyNumberButNoughtKeepsAWord(t *testing.T) {
	for _, kind := range kinds() {
		dropIs(t, row(256, 512, 768), []int{kind, 0, kind}, 512, 8, row(512, 0, 1536))
		dropTells(t, row(256, most), []int{0, kind}, 257, 8, api.ErrOver)
	}
}

func TestDropsOfEdges(t *testing.T) {
	for _, f := range []int{8, 9, 16, 31, 32} {
		for _, v := range sample.Edges() {
			for _, w := range sample.Edges() {
				dropHolds(t, row(v), []int{1}, w, f)
				dropIs(t, row(v), []int{0}, w, f, row(0))
			}
		}
	}
}

func TestDropsThatAreNoWords(t *testing.T) {
	for f := api.MinF; f <= api.MaxF; f++ {
		double := int64(2) << f
		half := int64(1 << 46)
		for _, sign := range []int64{1, -1} {
			dropTells(t, row(sign*half), []int{1}, double, f, api.ErrOver)
			dropIs(t, row(sign*(half-1)), []int{1}, double, f, row(sign*(most-1)))
			dropIs(t, row(most, -most), []int{1, 2}, sign<<f, f, row(sign*most, -sign*most))
			dropTells(t, row(sign*most), []int{1}, 1<<f+1, f, api.ErrOver)
			dropTells(t, of(nil, sign*most), []int{1}, -most, f, api.ErrOver)
		}
	}
}

// One word that is kept and has no product refuses the call, wherever it stands; one that is dropped does not.
func TestOnlyWordsThatAreKeptAreAsked(t *testing.T) {
	for _, s := range [][]int{{1}, {5}, {2, 3}, {2, 1, 3}, {2, 2, 2, 2}, {4096}} {
		n := sample.Count(s)
		for _, at := range []int{0, n / 2, n - 1} {
			x, want := sample.Filled(s, 256), sample.Filled(s, 512)
			x.Data[at], want.Data[at] = -most, 0
			mask := ones(n)
			dropTells(t, x, mask, 512, 8, api.ErrOver)
			mask[at] = 0
			dropIs(t, x, mask, 512, 8, want)
			dropIs(t, sample.Filled(s, most), make([]int, n), most, 8, sample.Filled(s, 0))
			mask = make([]int, n)
			mask[at] = -1
			dropTells(t, sample.Filled(s, most), mask, most, 8, api.ErrOver)
		}
	}
}

func TestDropsOfAsManyWordsAsThereMayBe(t *testing.T) {
	m := mixer.Mixer(188)
	for _, s := range [][]int{{16, 4096}, {256, 256}, {16, 16, 16, 16}} {
		for _, f := range []int{8, 32} {
			dropHolds(t, sample.Tensor(&m, s, 46), masks(&m, sample.Count(s), 2), 1<<f+1<<(f-2), f)
			dropHolds(t, sample.Tensor(&m, s, 47), masks(&m, sample.Count(s), 2), -1<<(f-1), f)
		}
	}
}

// Errors

func TestDropTellsOfNoTensorsFirst(t *testing.T) {
	for _, bad := range append(sample.NoTensors(), api.Tensor{}) {
		for _, f := range []int{8, 7} {
			dropTells(t, bad, nil, 256, f, api.ErrForm)
			dropTells(t, bad, []int{1}, most, f, api.ErrForm)
			dropTells(t, bad, ones(len(bad.Data)), 256, f, api.ErrForm)
			dropTells(t, bad, make([]int, len(bad.Data)), 1<<47, f, api.ErrForm)
		}
	}
}

func TestDropTellsOfNoWordsFirst(t *testing.T) {
	for _, w := range sample.NoWords() {
		for _, f := range []int{8, 32, 7} {
			dropTells(t, row(1, 2), []int{1, 1}, w, f, api.ErrForm)
			dropTells(t, row(1, 2), []int{0, 0}, w, f, api.ErrForm) // though nothing is asked for
			dropTells(t, row(0, 0), []int{1, 1}, w, f, api.ErrForm)
			dropTells(t, row(1, 2), []int{1}, w, f, api.ErrForm)
			dropTells(t, row(1, 2), nil, w, f, api.ErrForm)
			dropTells(t, row(most, most), []int{1, 1}, w, f, api.ErrForm)
		}
	}
}

func TestDropTellsOfNoCountsFirst(t *testing.T) {
	for _, f := range sample.NoCounts() {
		for _, w := range []int64{0, 1, 256, most} {
			dropTells(t, row(1, 2), []int{1, 1}, w, f, api.ErrForm)
			dropTells(t, row(1, 2), []int{0, 0}, w, f, api.ErrForm)
			dropTells(t, row(1, 2), []int{1}, w, f, api.ErrForm)
			dropTells(t, row(most, most), []int{1, 1}, w, f, api.ErrForm)
		}
	}
}

func TestMasksThatDoNotFit(t *testing.T) {
	for _, s := range sample.Shapes() {
		n := sample.Count(s)
		for _, many := range []int{0, n - 1, n + 1, 2 * n, n + 1<<16} {
			dropTells(t, rising(s), ones(many), 256, 8, api.ErrShape)
			dropTells(t, rising(s), make([]int, many), 256, 8, api.ErrShape)
			dropTells(t, sample.Filled(s, most), ones(many), most, 8, api.ErrShape) // ahead of words that have no product
		}
		dropTells(t, rising(s), nil, 256, 8, api.ErrShape)
	}
}

// P17.3

func TestWithoutNoughtsAndWithOneNothingChanges(t *testing.T) {
	m := mixer.Mixer(189)
	for f := api.MinF; f <= api.MaxF; f++ {
		for _, s := range sample.Shapes() {
			x := sample.Tensor(&m, s, 47)
			dropIs(t, x, ones(len(x.Data)), 1<<f, f, x)
			dropIs(t, x, keeps(&m, len(x.Data)), 1<<f, f, x)
		}
		dropIs(t, row(sample.Edges()...), ones(len(sample.Edges())), 1<<f, f, row(sample.Edges()...))
	}
}

func TestWithoutNoughtsDropScales(t *testing.T) {
	m := mixer.Mixer(190)
	for f := api.MinF; f <= api.MaxF; f++ {
		for range 20 {
			x, w := sample.Tensor(&m, []int{3, 4}, 30), sample.Words(&m, 1, f+1)[0]
			want, e := elem.One(api.OpScale, x, w, f)
			if e != api.OK {
				t.Fatalf("%v, %d, %d: %v", x, w, f, e)
			}
			dropIs(t, x, keeps(&m, 12), w, f, want)
		}
	}
}

// R1, R2

func TestDropNeitherChangesNorKeeps(t *testing.T) {
	m := mixer.Mixer(191)
	for _, s := range sample.Shapes() {
		words, mask := sample.Words(&m, sample.Count(s), 40), masks(&m, sample.Count(s), 2)
		want, _ := dropped(of(s, words...), mask, 1300, 10)
		for range 2 { // the second time, after the answer of the first was spoiled
			x, lets := sample.Roomy(s, words), sample.RoomyInts(mask)
			got, _ := embed.Drop(x, lets, 1300, 10)
			same, _ := embed.Drop(x, lets, 1300, 10)
			sample.Spoil(same)
			same, _ = embed.Drop(x, sample.RoomyInts(ones(len(mask))), 1<<10, 10) // nothing is changed, yet it is new
			sample.Spoil(same)
			if !sample.AsHandedIn(x, s, words) || !sample.IntsAsHandedIn(lets, mask) {
				t.Errorf("%v: handed in, now: %v, %v", s, x, lets)
			}
			sample.Spoil(x)
			sample.SpoilInts(lets)
			if !sample.Same(got, want) {
				t.Errorf("%v: %v, want %v", s, got, want)
			}
			sample.Spoil(got)
		}
	}
}

func TestDropChangesNothingBesideAnError(t *testing.T) {
	s, words, mask := []int{2}, []int64{256, -most}, []int{1, 1}
	x, lets := sample.Roomy(s, words), sample.RoomyInts(mask)
	dropTells(t, x, lets, 512, 8, api.ErrOver)
	dropTells(t, x, lets[:1], 512, 8, api.ErrShape)
	dropTells(t, x, lets, 1<<47, 8, api.ErrForm)
	dropTells(t, x, lets, 512, 7, api.ErrForm)
	if !sample.AsHandedIn(x, s, words) || !sample.IntsAsHandedIn(lets, mask) {
		t.Errorf("%v, %v", x, lets)
	}
}
