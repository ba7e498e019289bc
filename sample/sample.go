// Package sample: tensors, and what goes beside them, for the tests of the layers that take them, which nothing else calls: the same ones in every run.
package sample

import (
	"math"
	"slices"

	"ratchet/api"
	"ratchet/mixer"
)

// Most is the greatest word.
const Most = 1<<api.Bits - 1

func Of(s []int, data ...int64) api.Tensor { return api.Tensor{Shape: s, Data: data} }

func Row(data ...int64) api.Tensor { return Of([]int{len(data)}, data...) }

// Edges are words where something ends or turns.
func Edges() []int64 {
	return []int64{-Most, -Most + 1, -1 << 46, -1 << 40, -25600, -384, -256, -129, -128, -2, -1, 0, 1, 2, 127, 128, 255, 256, 257, 384, 768, 1 << 20, 1 << 40, 1 << 46, Most - 1, Most}
}

func NoWords() []int64 {
	return []int64{1 << 47, -1 << 47, 1<<47 + 1, -1<<47 - 1, math.MaxInt64, math.MinInt64}
}

// NoCounts are of no fraction bits that words may have.
func NoCounts() []int {
	return []int{7, 33, 0, -1, -8, 63, 64, 1 << 20, 1 << 32, 1<<32 + 8, math.MinInt, math.MaxInt}
}

func Shapes() [][]int {
	return [][]int{nil, {}, {1}, {2}, {5}, {1, 1}, {2, 3}, {3, 1}, {1, 3}, {2, 3, 4}, {2, 1, 4}, {1, 1, 1, 1}, {2, 3, 1, 2}, {1, 2, 3, 1}, {4096}, {1, 4096}, {16, 1, 16, 16}}
}

func NoShapes() [][]int {
	return [][]int{{0}, {-1}, {4097}, {math.MaxInt}, {math.MinInt}, {2, 0}, {0, 2}, {-1, -1}, {-2, -3}, {4096, 17}, {257, 256}, {4096, 4096, 4096, 4096}, {1 << 32, 1 << 32}, {1, 1, 1, 1, 1}, {2, 1, 1, 1, 1, 1}}
}

func Count(s []int) int {
	n := 1
	for _, d := range s {
		n *= d
	}
	return n
}

// Indexes are all of s, in order.
func Indexes(s []int) [][]int {
	list := [][]int{nil}
	for _, d := range s {
		var longer [][]int
		for _, i := range list {
			for x := range d {
				longer = append(longer, append(slices.Clone(i), x))
			}
		}
		list = longer
	}
	return list
}

// At is the place of an index that is put together of lists.
func At(s []int, parts ...[]int) int {
	place := 0
	for k, x := range slices.Concat(parts...) {
		place = place*s[k] + x
	}
	return place
}

// Words are n of them, of up to so many bits.
func Words(m *mixer.Mixer, n, bits int) []int64 {
	list := make([]int64, n)
	for k := range list {
		list[k] = int64(m.Next()) >> (63 - m.Below(bits+1))
		if list[k] == -1<<api.Bits {
			list[k]++
		}
	}
	return list
}

func Tensor(m *mixer.Mixer, s []int, bits int) api.Tensor {
	return api.Tensor{Shape: s, Data: Words(m, Count(s), bits)}
}

// Filled is a tensor of one word everywhere.
func Filled(s []int, v int64) api.Tensor {
	return api.Tensor{Shape: s, Data: slices.Repeat([]int64{v}, Count(s))}
}

// Rising is 1, 2, 3 and so on.
func Rising(s []int) api.Tensor {
	a := Filled(s, 0)
	for n := range a.Data {
		a.Data[n] = int64(n + 1)
	}
	return a
}

// Signed has the greatest and the least word alone.
func Signed(m *mixer.Mixer, s []int) api.Tensor {
	a := Filled(s, Most)
	for n := range a.Data {
		if m.Below(2) == 0 {
			a.Data[n] = -Most
		}
	}
	return a
}

// NoTensors are tensors but for one thing, shapes, how many words, or a word that is none.
func NoTensors() []api.Tensor {
	var list []api.Tensor
	for _, s := range NoShapes() {
		list = append(list, api.Tensor{Shape: s}, Of(s, 1), Of(s, 1, 2), api.Tensor{Shape: s, Data: make([]int64, api.MaxElems)})
		if n := Count(s); n >= 0 && n < 1<<20 {
			list = append(list, api.Tensor{Shape: s, Data: make([]int64, n)})
		}
	}
	for _, s := range Shapes() {
		n := Count(s)
		for _, other := range []int{0, n - 1, n + 1, 2 * n} {
			list = append(list, api.Tensor{Shape: s, Data: make([]int64, other)})
		}
		for _, x := range NoWords() {
			for _, at := range []int{0, n / 2, n - 1} {
				data := make([]int64, n)
				data[at] = x
				list = append(list, api.Tensor{Shape: s, Data: data})
			}
		}
	}
	return list
}

func Same(a, b api.Tensor) bool {
	return slices.Equal(a.Shape, b.Shape) && slices.Equal(a.Data, b.Data)
}

func IsZero(t api.Tensor) bool { return t.Shape == nil && t.Data == nil }

// Roomy is a tensor whose lists have room to spare, with numbers in it that nobody may change.
func Roomy(s []int, data []int64) api.Tensor {
	return api.Tensor{Shape: RoomyInts(s), Data: append(slices.Clone(data), 93, 94)[:len(data)]}
}

// AsHandedIn is whether t is as Roomy told it of s and data, the spare room too.
func AsHandedIn(t api.Tensor, s []int, data []int64) bool {
	return IntsAsHandedIn(t.Shape, s) && slices.Equal(t.Data[:len(data)+2], append(slices.Clone(data), 93, 94))
}

// Spoil writes all over t, its spare room too.
func Spoil(t api.Tensor) {
	SpoilInts(t.Shape)
	for k := range t.Data[:cap(t.Data)] {
		t.Data[:cap(t.Data)][k] = -8
	}
}

// RoomyInts is a list with room to spare, as Roomy's.
func RoomyInts(list []int) []int { return append(slices.Clone(list), 91, 92)[:len(list)] }

func IntsAsHandedIn(list, was []int) bool {
	return slices.Equal(list[:len(was)+2], append(slices.Clone(was), 91, 92))
}

func SpoilInts(list []int) {
	for k := range list[:cap(list)] {
		list[:cap(list)][k] = -7
	}
}
