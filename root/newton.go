package root

import (
	"math/bits"

	"ratchet/api"
	"ratchet/wide"
)

// nearest is R of the root of x, of which it is handed 4 x, rounded up: the least k with 4 x at most (2 k + 1)^2.
// At a half, 4 x is that odd square. Of the x there are, whole numbers and powers of 2 over words, only a quarter is so: k is 0, which is even.
func nearest(fourfold api.Wide) int64 {
	k := root(fourfold) / 2
	if wide.Cmp(fourfold, wide.Mul(2*k+1, 2*k+1)) > 0 {
		return k + 1
	}
	return k
}

// root is n's root, rounded down. A guess that is not below it has no step that is: so the steps go down till they are there.
func root(n api.Wide) int64 {
	guess := int64(1) << ((length(n) + 1) / 2)
newton:
	for {
		switch next := step(n, guess); {
		case next < guess:
			guess = next
		default:
			break newton
		}
	}
	return guess
}

// step needs a guess of n's root that is not below it: so the quotient is small. From a guess of 0, where n is 0, there is none: the step stays there.
func step(n api.Wide, guess int64) int64 {
	quotient, _ := wide.Down(n, wide.From(guess))
	other, _ := wide.Small(quotient)
	return (guess + other) / 2
}

func length(n api.Wide) int {
	if n.Hi > 0 {
		return 64 + bits.Len64(uint64(n.Hi))
	}
	return bits.Len64(n.Lo)
}
