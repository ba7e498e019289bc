package sample_test

import (
	"slices"
	"testing"

	"ratchet/api"
	"ratchet/mixer"
	"ratchet/sample"
)

func TestWords(t *testing.T) {
	m := mixer.Mixer(1)
	for bits := range 48 {
		for _, v := range sample.Words(&m, 300, bits) {
			if v < -1<<bits || v >= 1<<bits || v < -sample.Most {
				t.Errorf("of %d bits: %d", bits, v)
			}
		}
	}
}

func TestTensorHasItsShapesCount(t *testing.T) {
	m := mixer.Mixer(2)
	for _, s := range sample.Shapes() {
		if a := sample.Tensor(&m, s, 20); !slices.Equal(a.Shape, s) || len(a.Data) != sample.Count(s) {
			t.Errorf("%v: %v", s, a)
		}
	}
}

func TestSame(t *testing.T) {
	a := sample.Of([]int{2, 1}, 3, 4)
	if !sample.Same(a, sample.Of([]int{2, 1}, 3, 4)) || sample.Same(a, sample.Of([]int{1, 2}, 3, 4)) || sample.Same(a, sample.Of([]int{2, 1}, 3, 5)) {
		t.Error(a)
	}
	if !sample.IsZero(api.Tensor{}) || sample.IsZero(sample.Of([]int{})) || sample.IsZero(api.Tensor{Data: []int64{}}) {
		t.Error("zero values")
	}
}

func TestAsHandedIn(t *testing.T) {
	s, data := []int{2, 3}, []int64{1, 2, 3, 4, 5, 6}
	if !sample.AsHandedIn(sample.Roomy(s, data), s, data) {
		t.Error("as it was told")
	}
	for _, change := range []func(api.Tensor){
		func(a api.Tensor) { a.Shape[1] = 4 },
		func(a api.Tensor) { a.Data[5] = 0 },
		func(a api.Tensor) { _ = append(a.Shape, 0) },
		func(a api.Tensor) { _ = append(a.Data, 0) },
		sample.Spoil,
	} {
		a := sample.Roomy(s, data)
		change(a)
		if sample.AsHandedIn(a, s, data) {
			t.Errorf("changed: %v", a)
		}
	}
	if !slices.Equal(s, []int{2, 3}) || !slices.Equal(data, []int64{1, 2, 3, 4, 5, 6}) {
		t.Errorf("Spoil reaches what Roomy was handed: %v, %v", s, data)
	}
}

func TestIntsAsHandedIn(t *testing.T) {
	for _, list := range [][]int{nil, {}, {1}, {1, 2, 3}} {
		was := slices.Clone(list)
		if !sample.IntsAsHandedIn(sample.RoomyInts(list), list) {
			t.Errorf("%v: as it was told", list)
		}
		for _, change := range []func([]int){
			func(a []int) { _ = append(a, 0) },
			func(a []int) { _ = append(a, 91, 0) },
			sample.SpoilInts,
		} {
			a := sample.RoomyInts(list)
			change(a)
			if sample.IntsAsHandedIn(a, list) {
				t.Errorf("%v, changed: %v", list, a)
			}
		}
		if !slices.Equal(list, was) {
			t.Errorf("SpoilInts reaches what RoomyInts was handed: %v", list)
		}
	}
}

func TestNoCounts(t *testing.T) {
	for _, f := range sample.NoCounts() {
		if api.MinF <= f && f <= api.MaxF {
			t.Errorf("%d is one", f)
		}
	}
}

func TestFilledRisingAndSigned(t *testing.T) {
	m := mixer.Mixer(3)
	s := []int{2, 3}
	if a := sample.Filled(s, -4); !sample.Same(a, sample.Of(s, -4, -4, -4, -4, -4, -4)) {
		t.Error(a)
	}
	if a := sample.Rising(s); !sample.Same(a, sample.Of(s, 1, 2, 3, 4, 5, 6)) {
		t.Error(a)
	}
	a := sample.Signed(&m, []int{64})
	ends := slices.Compact(slices.Sorted(slices.Values(a.Data)))
	if len(a.Data) != 64 || !slices.Equal(ends, []int64{-sample.Most, sample.Most}) {
		t.Error(a)
	}
}

func TestIndexesStandInOrder(t *testing.T) {
	for _, s := range [][]int{nil, {1}, {3}, {2, 3}, {2, 1, 4}, {2, 3, 1, 2}} {
		list := sample.Indexes(s)
		if len(list) != sample.Count(s) {
			t.Errorf("%v: %v", s, list)
		}
		for n, i := range list {
			if len(i) != len(s) || sample.At(s, i) != n || len(i) > 0 && sample.At(s, i[:1], i[1:]) != n {
				t.Errorf("%v: %v at %d", s, i, n)
			}
		}
	}
}
