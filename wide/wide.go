// Package wide: numbers of 128 bits: see ../../shared/doc/01-wide.md.
package wide

import (
	"cmp"
	"math/bits"
	"strconv"
	"strings"

	"ratchet/api"
)

const mostLeft = 126

// Text divides by the greatest power of ten of 64 bits: it is above the high half of every wide number's size, as bits.Div64 needs it.
const (
	tenTo19 = 10_000_000_000_000_000_000
	noughts = 19
)

func From(n int64) api.Wide { return api.Wide{Hi: n >> 63, Lo: uint64(n)} }

func Small(w api.Wide) (int64, bool) {
	n := int64(w.Lo)
	if w != From(n) {
		return 0, false
	}
	return n, true
}

func Sign(w api.Wide) int { return Cmp(w, api.Wide{}) }

func Cmp(a, b api.Wide) int {
	if a.Hi != b.Hi {
		return cmp.Compare(a.Hi, b.Hi)
	}
	return cmp.Compare(a.Lo, b.Lo)
}

func Mul(a, b int64) api.Wide {
	hi, lo := bits.Mul64(uint64(a), uint64(b))
	// Without its sign a factor below 0 reads 2^64 too high, so the high half has the other factor too often.
	if a < 0 {
		hi -= uint64(b)
	}
	if b < 0 {
		hi -= uint64(a)
	}
	return api.Wide{Hi: int64(hi), Lo: lo}
}

func Add(a, b api.Wide) (api.Wide, api.Errno) {
	lo, carry := bits.Add64(a.Lo, b.Lo, 0)
	hi, _ := bits.Add64(uint64(a.Hi), uint64(b.Hi), carry)
	sum := api.Wide{Hi: int64(hi), Lo: lo}
	if below(a) == below(b) && below(sum) != below(a) {
		return api.Wide{}, api.ErrOver
	}
	return sum, api.OK
}

func Sub(a, b api.Wide) (api.Wide, api.Errno) {
	lo, borrow := bits.Sub64(a.Lo, b.Lo, 0)
	hi, _ := bits.Sub64(uint64(a.Hi), uint64(b.Hi), borrow)
	rest := api.Wide{Hi: int64(hi), Lo: lo}
	if below(a) != below(b) && below(rest) != below(a) {
		return api.Wide{}, api.ErrOver
	}
	return rest, api.OK
}

func Neg(a api.Wide) (api.Wide, api.Errno) { return Sub(api.Wide{}, a) }

func Left(w api.Wide, n int) (api.Wide, api.Errno) {
	if n < 0 || n > mostLeft {
		return api.Wide{}, api.ErrForm
	}
	s := sizeOf(w)
	// Longer ones would lose bits in the shift, ahead of signed's look at them.
	if s.length()+n > 128 {
		return api.Wide{}, api.ErrOver
	}
	return signed(s.left(n), below(w))
}

func Round(n, d api.Wide) (api.Wide, api.Errno) {
	if Sign(d) == 0 {
		return api.Wide{}, api.ErrZero
	}
	by := sizeOf(d)
	quotient, rest := divide(sizeOf(n), by)
	// Halves to even do not hang on the sign, so sizes alone tell which way to go.
	half := rest.left(1).compare(by)
	if half > 0 || half == 0 && quotient.odd() {
		quotient = quotient.next()
	}
	return signed(quotient, below(n) != below(d))
}

func Down(n, d api.Wide) (api.Wide, api.Errno) {
	if Sign(d) == 0 {
		return api.Wide{}, api.ErrZero
	}
	quotient, rest := divide(sizeOf(n), sizeOf(d))
	opposite := below(n) != below(d)
	if opposite && rest != (size{}) {
		quotient = quotient.next()
	}
	return signed(quotient, opposite)
}

func Text(w api.Wide) string {
	minus := ""
	if below(w) {
		minus = "-"
	}
	s := sizeOf(w)
	high, low := bits.Div64(s.hi, s.lo, tenTo19)
	digits := strconv.FormatUint(low, 10)
	if high == 0 {
		return minus + digits
	}
	return minus + strconv.FormatUint(high, 10) + strings.Repeat("0", noughts-len(digits)) + digits
}

func below(w api.Wide) bool { return w.Hi < 0 }
