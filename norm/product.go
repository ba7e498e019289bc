package norm

import (
	"math/bits"
	"slices"

	"ratchet/api"
)

// A product is one of two wide numbers that are not below 0, which may be longer than a wide number: its limbs, the highest first.
type product [4]uint64

func times(a, b api.Wide) product {
	var p product
	for i, x := range [2]uint64{a.Lo, uint64(a.Hi)} {
		carry := uint64(0)
		for j, y := range [2]uint64{b.Lo, uint64(b.Hi)} {
			at := 3 - i - j
			carry, p[at] = together(x, y, p[at], carry)
		}
		p[1-i] = carry
	}
	return p
}

// together is x y + a + b, which never has more than two limbs.
func together(x, y, a, b uint64) (high, low uint64) {
	high, low = bits.Mul64(x, y)
	low, carry := bits.Add64(low, a, 0)
	high += carry
	low, carry = bits.Add64(low, b, 0)
	return high + carry, low
}

func (p product) compare(o product) int { return slices.Compare(p[:], o[:]) }
