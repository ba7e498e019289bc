package soft

import (
	"iter"

	"ratchet/api"
)

// rowsOf tells of each row along the last axis, in order, at which places of t's Data those of its words stand that are let through.
func rowsOf(t api.Tensor, lets func(place int) bool) iter.Seq[[]int] {
	length := t.Shape[len(t.Shape)-1]
	return func(yield func([]int) bool) {
		for from := 0; from < len(t.Data); from += length {
			if !yield(letThrough(from, from+length, lets)) {
				return
			}
		}
	}
}

func letThrough(from, to int, lets func(place int) bool) []int {
	var places []int
	for place := from; place < to; place++ {
		if lets(place) {
			places = append(places, place)
		}
	}
	return places
}

func every(int) bool { return true }

func at(words []int64, places []int) []int64 {
	var list []int64
	for _, place := range places {
		list = append(list, words[place])
	}
	return list
}

func lay(words []int64, places []int, list []int64) {
	for n, place := range places {
		words[place] = list[n]
	}
}
