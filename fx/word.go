package fx

import (
	"ratchet/api"
	"ratchet/wide"
)

// A word is one that Check has let through.
type word int64

type operation int

const (
	adding operation = iota
	subtracting
	multiplying
	dividing
)

// way is the operation itself: each is asked in one way, so one function checks for all of them.
func (o operation) way() func(a, b word, f int) (int64, api.Errno) {
	switch o {
	case adding:
		return word.plus
	case subtracting:
		return word.less
	case multiplying:
		return word.times
	default:
		return word.over
	}
}

func reckon(o operation, a, b int64, f int) (int64, api.Errno) {
	if Check(a) != api.OK || Check(b) != api.OK || CheckF(f) != api.OK {
		return 0, api.ErrForm
	}
	return o.way()(word(a), word(b), f)
}

func (a word) plus(b word, _ int) (int64, api.Errno) { return told(int64(a + b)) }

func (a word) less(b word, _ int) (int64, api.Errno) { return told(int64(a - b)) }

func (a word) times(b word, f int) (int64, api.Errno) {
	return Close(wide.Mul(int64(a), int64(b)), f)
}

func (a word) over(b word, f int) (int64, api.Errno) { return Ratio(int64(a), int64(b), f) }

func nearest(n, d api.Wide) (int64, api.Errno) {
	quotient, e := wide.Round(n, d)
	if e != api.OK {
		return 0, e
	}
	v, ok := wide.Small(quotient)
	if !ok {
		return 0, api.ErrOver
	}
	return told(v)
}

// told is the last look at an answer: what is no word was the caller's fault going in, but is an overflow coming out.
func told(v int64) (int64, api.Errno) {
	if Check(v) != api.OK {
		return 0, api.ErrOver
	}
	return v, api.OK
}
