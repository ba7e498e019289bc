package wide

import (
	"cmp"
	"math/bits"

	"ratchet/api"
)

// A size is a whole number hi 2^64 + lo without a sign: the least wide number's, 2^127, is no wide number itself.
type size struct {
	hi, lo uint64
}

func sizeOf(w api.Wide) size {
	s := size{hi: uint64(w.Hi), lo: w.Lo}
	if below(w) {
		return size{}.less(s)
	}
	return s
}

func signed(s size, negative bool) (api.Wide, api.Errno) {
	if negative {
		return negated(s)
	}
	if s.hi >= 1<<63 {
		return api.Wide{}, api.ErrOver
	}
	return api.Wide{Hi: int64(s.hi), Lo: s.lo}, api.OK
}

func negated(s size) (api.Wide, api.Errno) {
	if s.compare(size{hi: 1 << 63}) > 0 {
		return api.Wide{}, api.ErrOver
	}
	turned := size{}.less(s)
	return api.Wide{Hi: int64(turned.hi), Lo: turned.lo}, api.OK
}

func (s size) compare(o size) int {
	if s.hi != o.hi {
		return cmp.Compare(s.hi, o.hi)
	}
	return cmp.Compare(s.lo, o.lo)
}

func (s size) odd() bool { return s.lo%2 == 1 }

func (s size) next() size {
	lo, carry := bits.Add64(s.lo, 1, 0)
	return size{hi: s.hi + carry, lo: lo}
}

// less wraps below 0, as two's complement does: so 0 less s is the word of -s.
func (s size) less(o size) size {
	lo, borrow := bits.Sub64(s.lo, o.lo, 0)
	hi, _ := bits.Sub64(s.hi, o.hi, borrow)
	return size{hi: hi, lo: lo}
}

func (s size) left(n int) size {
	if n >= 64 {
		return size{hi: s.lo << (n - 64)}
	}
	return size{hi: s.hi<<n | s.lo>>(64-n), lo: s.lo << n}
}

func (s size) length() int {
	if s.hi != 0 {
		return 64 + bits.Len64(s.hi)
	}
	return bits.Len64(s.lo)
}

func (s size) withBit(n int) size {
	bit := size{lo: 1}.left(n)
	return size{hi: s.hi | bit.hi, lo: s.lo | bit.lo}
}

// divide needs a d above 0. Where d is the longer one there is no bit to find, and all of n is left.
func divide(n, d size) (quotient, rest size) {
	rest = n
search:
	for at := n.length() - d.length(); at >= 0; at-- {
		step := d.left(at)
		switch rest.compare(step) {
		case 0: // nothing is left, so every lower bit is 0
			quotient, rest = quotient.withBit(at), size{}
			break search
		case 1:
			quotient, rest = quotient.withBit(at), rest.less(step)
		}
	}
	return quotient, rest
}
