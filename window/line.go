package window

import "iter"

// A line is one spatial dimension and what goes over it.
type line struct {
	length, taps, stride, pad, dilation int
	places                              int
}

func newLine(length, taps, stride, pad, dilation int) line {
	l := line{length: length, taps: taps, stride: stride, pad: pad, dilation: dilation}
	if room := length + 2*pad - dilation*(taps-1) - 1; room >= 0 {
		l.places = room/stride + 1
	}
	return l
}

// A tap stands at a place, which may be out of its line.
type tap struct {
	place, number int
	within        bool
}

func (l line) at(place int) iter.Seq[tap] {
	return func(yield func(tap) bool) {
		for n := range l.taps {
			at := place*l.stride + n*l.dilation - l.pad
			if !yield(tap{place: at, number: n, within: at >= 0 && at < l.length}) {
				return
			}
		}
	}
}
