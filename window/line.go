package window

import "iter"

// A Line is one spatial dimension, of Length words, and what goes over it, which has so many Places there.
type Line struct {
	Length, Places              int
	taps, stride, pad, dilation int
}

func newLine(length, taps, stride, pad, dilation int) Line {
	l := Line{Length: length, taps: taps, stride: stride, pad: pad, dilation: dilation}
	if room := length + 2*pad - dilation*(taps-1) - 1; room >= 0 {
		l.Places = room/stride + 1
	}
	return l
}

// A tap stands at a place, which may be out of its line.
type tap struct {
	place, number int
	within        bool
}

func (l Line) at(place int) iter.Seq[tap] {
	return func(yield func(tap) bool) {
		for n := range l.taps {
			at := place*l.stride + n*l.dilation - l.pad
			if !yield(tap{place: at, number: n, within: at >= 0 && at < l.Length}) {
				return
			}
		}
	}
}

// Windows are, place by place, the words on which taps stand there, in order: a list of its own each, empty where all taps are out.
func (l Line) Windows() iter.Seq[[]int] {
	return func(yield func([]int) bool) {
		for place := range l.Places {
			if !yield(l.within(place)) {
				return
			}
		}
	}
}

func (l Line) within(place int) []int {
	words := make([]int, 0, min(l.taps, l.Length))
taps:
	for tap := range l.at(place) {
		if !tap.within {
			continue taps
		}
		words = append(words, tap.place)
	}
	return words
}
