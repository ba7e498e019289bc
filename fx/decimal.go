package fx

import (
	"iter"
	"strings"

	"ratchet/api"
)

// decimals tells the digits behind the point of size / 2^f. They end: each takes a factor of 2 from what is below the point.
func decimals(size uint64, f int) iter.Seq[byte] {
	below := uint64(1)<<f - 1
	return func(yield func(byte) bool) {
		for rest := size & below; rest != 0; rest &= below {
			rest *= 10
			if !yield('0' + byte(rest>>f)) {
				return
			}
		}
	}
}

// A decimal is a text that was split: the digits ahead of its point and those behind it.
type decimal struct {
	minus       bool
	whole, part string
}

func split(s string) (decimal, bool) {
	s, minus := strings.CutPrefix(s, "-")
	whole, part, pointed := strings.Cut(s, ".")
	if !digits(whole) || pointed && !digits(part) {
		return decimal{}, false
	}
	return decimal{minus: minus, whole: whole, part: part}, true
}

func digits(s string) bool { return s != "" && strings.Trim(s, "0123456789") == "" }

func (d decimal) word(f int) (int64, api.Errno) {
	size := uint64(0)
	for _, digit := range []byte(d.whole) {
		size = 10*size + uint64(digit-'0')
		// Left here, ahead of the end, a text of many digits does not wrap.
		if size >= 1<<(api.Bits-f) {
			return 0, api.ErrOver
		}
	}
	v := int64(d.rounded(size, f))
	if d.minus {
		v = -v
	}
	return told(v)
}

// rounded doubles the digits behind the point, once for each bit: as a number they can be longer than 128 bits, and no bit of them may be lost, or a half is taken for none.
func (d decimal) rounded(size uint64, f int) uint64 {
	rest := []byte(d.part)
	for at := range rest {
		rest[at] -= '0'
	}
	for range f {
		size = 2*size + doubled(rest)
	}
	half := doubled(rest) == 1
	if half && (size%2 == 1 || !noughts(rest)) {
		size++
	}
	return size
}

// doubled tells the bit that comes out ahead of the point.
func doubled(rest []byte) uint64 {
	carry := byte(0)
	for at := len(rest) - 1; at >= 0; at-- {
		twice := 2*rest[at] + carry
		rest[at], carry = twice%10, twice/10
	}
	return uint64(carry)
}

func noughts(rest []byte) bool {
	for _, digit := range rest {
		if digit != 0 {
			return false
		}
	}
	return true
}
