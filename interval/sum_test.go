package interval

import (
	"slices"
	"testing"
)

func TestSums(t *testing.T) {
	for _, words := range [][]int64{{0}, {5, 5}, {100, -100, 0}, {1<<47 - 1, -1<<47 + 1}, {7, 7, -90 << 8}, {-3, -2, -1, -4000}} {
		greatest, all := slices.Max(words), float(0)
		limbs := 0
		for s := range Sums(words, 8) {
			limbs++
			all.SetInt64(0)
			for n, a := range words {
				x := float(0)
				if a-greatest > -1000<<8 {
					x = expOf(quotient(a-greatest, 1<<8))
				}
				about(t, "a power", s.powers[n], x)
				all.Add(all, x)
			}
			about(t, "a sum", s.all, all)
			about(t, "its logarithm", s.Logarithm(), lnOf(all))
			if len(s.powers) != len(words) || len(s.all.low) != limbs+1 {
				t.Errorf("%v: %d powers of %d limbs", words, len(s.powers), len(s.all.low))
			}
			if limbs == 5 {
				break
			}
		}
	}
}

// sharesAre holds what the first interval tells that tells all of them, and that it has so many limbs at most.
func sharesAre(t *testing.T, words []int64, f, most int, want []int64) {
	t.Helper()
	limbs := 0
	for s := range Sums(words, f) {
		limbs++
		if list, ok := s.Shares(f); ok || limbs == most {
			if !ok || !slices.Equal(list, want) {
				t.Errorf("of %d words: %v by %d limbs, want %v", len(words), list, limbs, want)
			}
			return
		}
	}
}

func TestShares(t *testing.T) {
	sharesAre(t, []int64{0, 0}, 8, 1, []int64{128, 128})
	sharesAre(t, []int64{256, 0}, 8, 1, []int64{187, 69})
	sharesAre(t, []int64{-1<<47 + 1}, 8, 1, []int64{256})
	sharesAre(t, []int64{1<<47 - 1, -1<<47 + 1}, 32, 1, []int64{1 << 32, 0})
}

// So many equal words have a half each, and others beside them, however little, make it less: no interval holds more than that.
func TestSharesOfAHalf(t *testing.T) {
	for f := 8; f <= 11; f++ {
		equal, noughts := slices.Repeat([]int64{5}, 2<<f), make([]int64, 2<<f)
		sharesAre(t, equal, f, 1, noughts)
		sharesAre(t, append(equal, -1<<47+1), f, 1, append(noughts, 0))
		sharesAre(t, equal[1:], f, 1, slices.Repeat([]int64{1}, 2<<f-1))
	}
}

func TestLogSums(t *testing.T) {
	for _, rows := range [][][]int64{{{0}}, {{0, 0}}, {{5}, {-7}}, {{0, 0}, {100, -100}}, {{1<<47 - 1, -1<<47 + 1}, {3, 2}, {-4, -4000}}, slices.Repeat([][]int64{{9, -50, 12}}, 300)} {
		product := float(1)
		for _, words := range rows {
			sum, greatest := float(0), slices.Max(words)
			for _, a := range words {
				if a-greatest > -1000<<8 {
					sum.Add(sum, expOf(quotient(a-greatest, 1<<8)))
				}
			}
			product.Mul(product, sum)
		}
		limbs, want := 0, lnOf(product)
		for i := range LogSums(slices.Values(rows), 8) {
			limbs++
			about(t, "logarithms together", i, want)
			if len(i.low) != limbs+1 || limbs == 5 {
				break
			}
		}
		if limbs != 5 {
			t.Errorf("%v: %d limbs were told", rows, limbs)
		}
	}
}

// Rows that have one word each have nothing together, and others, however far they are below the greatest ones, are not told as less.
func TestLogSumsThatAreHardlyAnything(t *testing.T) {
	for _, rows := range [][][]int64{{{4}}, {{4}, {-4}}, {{1 << 46, -1 << 46}}, slices.Repeat([][]int64{{0, -1 << 40}}, 4096)} {
		for i := range LogSums(slices.Values(rows), 8) {
			if low, high := i.Down(33); valueOf(i.low).Sign() != 0 || low != 0 || high != 0 {
				t.Errorf("%d rows: from %s to %s", len(rows), valueOf(i.low).String(), valueOf(i.high).String())
			}
			break
		}
	}
}

func TestLogarithmOfOneIsNought(t *testing.T) {
	for s := range Sums([]int64{-5}, 8) {
		i := s.Logarithm()
		if valueOf(i.low).Sign() != 0 {
			t.Errorf("from %s", valueOf(i.low).String())
		}
		if word, ok := i.Word(32); word != 0 || !ok {
			t.Errorf("%d, %v", word, ok)
		}
		break
	}
}
