package loss_test

import (
	"math"
	"math/big"
	"slices"
	"testing"

	"ratchet/api"
	"ratchet/sample"
)

// Products of powers are off by less than 2^-slack of their bits: what is off a half of a word by less than that is not known.
const slack = 128

// Differences of words, in half words, have fewer bits than that.
const lengths = 50

// A power is e^-(1 / 2^(f + 1)), of a half word, and its squares, each the one's ahead of it: so e^-(n / 2^(f + 1)) is a product of some of them.
type powers struct {
	f       int
	prec    uint
	squares []*big.Float
}

func (p powers) real(x int64) *big.Float { return new(big.Float).SetPrec(p.prec).SetInt64(x) }

// powersOf reckons 1 / e by its series, goes down from it by roots, and up by squares.
func powersOf(f int, prec uint) powers {
	p := powers{f, prec, make([]*big.Float, lengths)}
	one, term := p.real(0), p.real(1)
	for j := int64(1); term.MantExp(nil) > -int(prec); j++ {
		one.Add(one, term)
		term.Quo(term, p.real(-j))
	}
	p.squares[f+1] = one
	for k := f; k >= 0; k-- {
		p.squares[k] = p.real(0).Sqrt(p.squares[k+1])
	}
	for k := f + 2; k < lengths; k++ {
		p.squares[k] = p.real(0).Mul(p.squares[k-1], p.squares[k-1])
	}
	return p
}

// below is e^-n, n being half words, no less than 0.
func (p powers) below(n int64) *big.Float {
	product := p.real(1)
	for k, square := range p.squares {
		if n>>k&1 == 1 {
			product.Mul(product, square)
		}
	}
	return product
}

// sum is that of the powers of words, over the greatest one's, but for those that are far below what its bits tell.
func (p powers) sum(words []int64) *big.Float {
	sum, greatest := p.real(0), slices.Max(words)
	for _, a := range words {
		if power := p.below(2 * (greatest - a)); power.MantExp(nil) > -2*int(p.prec) {
			sum.Add(sum, power)
		}
	}
	return sum
}

// A known is what rows and their labels come to: e to the mean's rows is the product of sums, each over its greatest power, and of e to the lack, how far the labels' words are below the greatest ones.
type known struct {
	p       powers
	rows    int64
	lack    int64
	product *big.Float
}

func knownOf(p powers, x api.Tensor, labels []int) known {
	k := known{p: p, rows: int64(x.Shape[0]), product: p.real(1)}
	for words := range slices.Chunk(x.Data, x.Shape[1]) {
		k.product.Mul(k.product, p.sum(words))
		k.lack += slices.Max(words) - words[labels[0]]
		labels = labels[1:]
	}
	return k
}

// isAbove is whether the mean is above word and a half. A sum of two powers or more is above 1, however little: so, if what is asked for is not above the greatest exponents, it is. Where the labels' words are the greatest ones it is above them.
// That both are too close for what is known of them is the test's own fault.
func (k known) isAbove(t *testing.T, word int64) bool {
	t.Helper()
	n := k.rows*(2*word+1) - 2*k.lack
	if n <= 0 {
		return true
	}
	off := k.p.below(n)
	off.Sub(off.Mul(off, k.product), k.p.real(1))
	if off.Sign() == 0 || off.MantExp(nil) < slack-int(k.p.prec) {
		t.Fatal("a half, or as good as that")
	}
	return off.Sign() > 0
}

// nearest looks for the first word behind whose half the mean does not lie.
func (k known) nearest(t *testing.T) (int64, api.Errno) {
	t.Helper()
	part := k.p.real(0)
	twos := k.product.MantExp(part)
	fraction, _ := part.Float64()
	word := (k.lack+int64(math.Ldexp(math.Log(fraction)+float64(twos)*math.Ln2, k.p.f)))/k.rows - 2
	for k.isAbove(t, word) {
		word++
	}
	if word > sample.Most {
		return 0, api.ErrOver
	}
	return word, api.OK
}

// near is 0 and words below it: their powers are together as little below a sum as they can be, if all but the last one are taken as they fit.
func (p powers) near(sum *big.Float, many int) []int64 {
	words, rest := []int64{0}, p.real(0).Sub(sum, p.real(1))
	for len(words) < many {
		part := p.real(0)
		twos := rest.MantExp(part)
		fraction, _ := part.Float64()
		d := max(0, -int64(math.Ldexp(math.Log(fraction)+float64(twos)*math.Ln2, p.f))-2)
		for p.below(2*d).Cmp(rest) > 0 {
			d++
		}
		words, rest = append(words, -d), rest.Sub(rest, p.below(2*d))
	}
	return words
}
