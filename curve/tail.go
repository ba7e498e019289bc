package curve

import (
	"iter"

	"ratchet/api"
	"ratchet/fx"
	"ratchet/interval"
)

type kind int

const (
	sigmoid kind = iota
	tanh
	softplus
)

// tails are the curves, each by its tail: how far it is, at x, off the line that it comes near to on x's side of 0. A tail is reckoned out of e^-|x|, in its place.
func tails() [3]func(power interval.Interval) {
	return [...]func(interval.Interval){
		sigmoid: func(power interval.Interval) { power.Share(1) },
		tanh: func(power interval.Interval) {
			power.Multiply(power)
			power.Share(1)
			power.Add(power)
		},
		softplus: func(power interval.Interval) { // ln(1 + p) is twice artanh of p / (2 + p)
			power.Share(2)
			power.Artanh()
			power.Add(power)
		},
	}
}

// tail is R of 2^f times a curve's tail at a / 2^f. The lines go through words, and no tail is a half between two: so R of a curve is its line with R of its tail added, or taken away.
func tail(k kind, a int64, f int) (int64, api.Errno) {
	if fx.CheckF(f) != api.OK || fx.Check(a) != api.OK {
		return 0, api.ErrForm
	}
	away := max(a, -a)
	// e is above 2: so from here on 2^f e^-|x| is below a half, and no tail is more than e^-|x|.
	if away>>f > int64(f) {
		return 0, api.OK
	}
	return interval.Settled(narrower(tails()[k], -away, f), f), api.OK
}

// narrower tells where a tail lies, as narrowly as the power is told.
func narrower(tail func(power interval.Interval), a int64, f int) iter.Seq[interval.Interval] {
	return func(yield func(interval.Interval) bool) {
		for power := range interval.Powers(a, f) {
			tail(power)
			if !yield(power) {
				return
			}
		}
	}
}
