package conv

import (
	"iter"

	"ratchet/api"
	"ratchet/wide"
	"ratchet/window"
)

// A meeting is a word of one channel and the tap that stands on it.
type meeting struct{ word, tap int }

func appendMeetings(list []meeting, over window.Window, place int) []meeting {
	for word, tap := range over.Within(place) {
		list = append(list, meeting{word, tap})
	}
	return list
}

// sum is that of all channels of one example and one kernel.
func sum(over window.Window, met []meeting, words, weights []int64) api.Wide {
	var all api.Wide
	for len(words) > 0 {
		for _, m := range met {
			// At most 2^16 products, each below 2^94: so there is no error.
			all, _ = wide.Add(all, wide.Mul(words[m.word], weights[m.tap]))
		}
		words, weights = words[over.Words:], weights[over.Taps:]
	}
	return all
}

// columnsOf is the shape of the columns that a tensor of the shape s is laid in, which may be none.
func columnsOf(s []int, over window.Window) []int {
	return []int{s[0], s[1] * over.Taps, over.Count}
}

// laid are the words of so many channels, and where among the columns each is laid.
func laid(over window.Window, channels int) iter.Seq2[int, int] {
	return func(yield func(int, int) bool) {
		for place := range over.Count {
			for word, tap := range over.Within(place) {
				for channel := range channels {
					if !yield(channel*over.Words+word, (channel*over.Taps+tap)*over.Count+place) {
						return
					}
				}
			}
		}
	}
}
