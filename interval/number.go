package interval

import (
	"math/bits"
	"slices"

	"ratchet/api"
)

// A number is limbs, the lowest first and the last one ahead of the point. Its methods leave their answers in it, rounded down.
type number []uint64

func (n number) put(p, q uint64) {
	last := len(n) - 1
	rest := p % q
	n[last] = p / q
	for at := last - 1; at >= 0; at-- {
		n[at], rest = bits.Div64(rest, 0, q)
	}
}

// putPart leaves o / by in n, for a by above 0.
func (n number) putPart(o number, by uint64) {
	rest := uint64(0)
	for at := len(n) - 1; at >= 0; at-- {
		n[at], rest = bits.Div64(rest, o[at], by)
	}
}

func (n number) add(o number) {
	carry := uint64(0)
	for at := range n {
		n[at], carry = bits.Add64(n[at], o[at], carry)
	}
}

// addLeast adds 1 to the lowest limb: what was rounded down is not below the real number any more.
func (n number) addLeast() {
	carry := uint64(1)
	for at := range n {
		n[at], carry = bits.Add64(n[at], 0, carry)
	}
}

func (n number) addWhole(whole uint64) { n[len(n)-1] += whole }

// takeOne needs a number that is not below 1.
func (n number) takeOne() { n[len(n)-1]-- }

// takeFromOne needs a number that is not above 1.
func (n number) takeFromOne() {
	borrow := uint64(0)
	for at := range n {
		n[at], borrow = bits.Sub64(0, n[at], borrow)
	}
	n.addWhole(1)
}

// multiply goes column by column, as it writes in n what it reads there: a column is written where no later one reads, even where o is n itself.
func (n number) multiply(o number) {
	last := len(n) - 1
	var low, middle, high uint64
	for column := range 2*last + 1 {
		for at := max(0, column-last); at <= min(column, last); at++ {
			above, below := bits.Mul64(n[at], o[column-at])
			var carry uint64
			low, carry = bits.Add64(low, below, 0)
			middle, carry = bits.Add64(middle, above, carry)
			high += carry
		}
		if column >= last {
			n[column-last] = low
		}
		low, middle, high = middle, high, 0
	}
}

// share makes n / (whole + n) of n: bit by bit, as it is below 1.
func (n number) share(whole uint64) {
	rest, sum := slices.Clone(n), slices.Clone(n)
	sum.addWhole(whole)
	clear(n)
	for range 64 * (len(n) - 1) {
		n.add(n)
		rest.add(rest)
		if !rest.below(sum) {
			rest.take(sum)
			n.addLeast()
		}
	}
}

// halve needs a times below 64.
func (n number) halve(times int) {
	above := uint64(0)
	for at := len(n) - 1; at >= 0; at-- {
		n[at], above = n[at]>>times|above<<(64-times), n[at]
	}
}

// nearest is the whole number nearest to 2^f n / whole, a half going down, for an n that is not above whole, or just above it.
func (n number) nearest(whole number, f int) int64 {
	rest, quotient := slices.Clone(n), int64(0)
	for range f + 1 {
		quotient += quotient
		if !rest.below(whole) {
			rest.take(whole)
			quotient++
		}
		rest.add(rest)
	}
	if whole.below(rest) {
		quotient++
	}
	return quotient
}

func (n number) below(o number) bool {
	for at := len(n) - 1; at >= 0; at-- {
		if n[at] != o[at] {
			return n[at] < o[at]
		}
	}
	return false
}

// take needs an o that is not above n.
func (n number) take(o number) {
	borrow := uint64(0)
	for at := range n {
		n[at], borrow = bits.Sub64(n[at], o[at], borrow)
	}
}

// down is the whole number that 2^f n is rounded down to, which is to be below 2^63.
func (n number) down(f int) int64 {
	last := len(n) - 1
	return int64(n[last]<<f + n[last-1]>>(64-f))
}

// word is the whole number nearest to 2^f n, a half going up: to even it would hang on every limb, so that two ends just above a half might never agree.
// For all that are no words it is 2^47, the least of them.
func (n number) word(f int) int64 {
	last := len(n) - 1
	if n[last]>>(api.Bits-f) != 0 {
		return 1 << api.Bits
	}
	half := n[last-1] >> (63 - f) & 1
	return n.down(f) + int64(half)
}
