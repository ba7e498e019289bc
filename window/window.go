// Package window: where the taps of a kernel stand, for convolutions and pools.
package window

import (
	"iter"

	"ratchet/api"
)

// A Window is a kernel that goes over the words of one channel of one example, Words of them, on which it has Places along each spatial dimension, Count together. It has so many Taps. Of one spatial dimension there is a single row, which Rows go over by a kernel of one row.
type Window struct {
	Places             []int
	Count, Taps, Words int
	Rows, Columns      Line
}

// AreNumbers is whether Stride, Pad and Dilation are what a convolution's or a pool's may be; Kernel is the caller's to look at.
func AreNumbers(c api.Conv) bool {
	n := len(c.Stride)
	if n != 1 && n != 2 || len(c.Pad) != n || len(c.Dilation) != n {
		return false
	}
	return AreSizes(c.Stride) && areFrom(0, c.Pad) && AreSizes(c.Dilation)
}

// AreSizes is whether each number is from 1 to MaxDim, as a kernel's dimensions are.
func AreSizes(list []int) bool { return areFrom(1, list) }

func areFrom(least int, list []int) bool {
	for _, n := range list {
		if n < least || n > api.MaxDim {
			return false
		}
	}
	return true
}

// Of is the window of a kernel of these dimensions over a tensor of the shape s, by c's numbers, which AreNumbers holds for. ErrShape is told of what does not go together.
func Of(s, kernel []int, c api.Conv) (Window, api.Errno) {
	spatial := len(s) - 2
	if len(kernel) != spatial || len(c.Stride) != spatial {
		return Window{}, api.ErrShape
	}
	lines := [2]Line{newLine(1, 1, 1, 0, 1)}
	w := Window{Count: 1, Taps: 1, Words: 1}
	for d, taps := range kernel {
		l := newLine(s[2+d], taps, c.Stride[d], c.Pad[d], c.Dilation[d])
		if l.Places == 0 {
			return Window{}, api.ErrShape
		}
		w.Places = append(w.Places, l.Places)
		w.Count, w.Taps, w.Words = w.Count*l.Places, w.Taps*l.taps, w.Words*l.Length
		lines[2-spatial+d] = l
	}
	w.Rows, w.Columns = lines[0], lines[1]
	return w, api.OK
}

// Within are the words on which taps stand at a place, and these taps, by their numbers, in order.
func (w Window) Within(place int) iter.Seq2[int, int] {
	return func(yield func(int, int) bool) {
	rows:
		for row := range w.Rows.at(place / w.Columns.Places) {
			if !row.within {
				continue rows
			}
			for column := range w.Columns.at(place % w.Columns.Places) {
				if !column.within {
					continue
				}
				if !yield(row.place*w.Columns.Length+column.place, row.number*w.Columns.taps+column.number) {
					return
				}
			}
		}
	}
}
