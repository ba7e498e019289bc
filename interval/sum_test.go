package interval

import (
	"slices"
	"testing"
)

func TestSums(t *testing.T) {
	for _, words := range [][]int64{{0}, {5, 5}, {100, -100, 0}, {1<<47 - 1, -1<<47 + 1}, {7, 7, -90 << 8}, {-3, -2, -1, -4000}} {
		greatest, all := slices.Max(words), float(0)
		limbs := 0
		for s := range Sums(words, 8) {
			limbs++
			all.SetInt64(0)
			for n, a := range words {
				x := float(0)
				if a-greatest > -1000<<8 {
					x = expOf(quotient(a-greatest, 1<<8))
				}
				about(t, "a power", s.powers[n], x)
				all.Add(all, x)
			}
			about(t, "a sum", s.all, all)
			about(t, "its logarithm", s.Logarithm(), lnOf(all))
			if len(s.powers) != len(words) || len(s.all.low) != limbs+1 {
				t.Errorf("%v: %d powers of %d limbs", words, len(s.powers), len(s.all.low))
			}
			if limbs == 5 {
				break
			}
		}
	}
}

// sharesAre holds what the first interval tells that tells all of them, and that it has so many limbs at most.
func sharesAre(t *testing.T, words []int64, f, most int, want []int64) {
	t.Helper()
	limbs := 0
	for s := range Sums(words, f) {
		limbs++
		if list, ok := s.Shares(f); ok || limbs == most {
			if !ok || !slices.Equal(list, want) {
				t.Errorf("of %d words: %v by %d limbs, want %v", len(words), list, limbs, want)
			}
			return
		}
	}
}

func TestShares(t *testing.T) {
	sharesAre(t, []int64{0, 0}, 8, 1, []int64{128, 128})
	sharesAre(t, []int64{256, 0}, 8, 1, []int64{187, 69})
	sharesAre(t, []int64{-1<<47 + 1}, 8, 1, []int64{256})
	sharesAre(t, []int64{1<<47 - 1, -1<<47 + 1}, 32, 1, []int64{1 << 32, 0})
}

// So many equal words have a half each, and others beside them, however little, make it less: no interval holds more than that.
func TestSharesOfAHalf(t *testing.T) {
	for f := 8; f <= 11; f++ {
		equal, noughts := slices.Repeat([]int64{5}, 2<<f), make([]int64, 2<<f)
		sharesAre(t, equal, f, 1, noughts)
		sharesAre(t, append(equal, -1<<47+1), f, 1, append(noughts, 0))
		sharesAre(t, equal[1:], f, 1, slices.Repeat([]int64{1}, 2<<f-1))
	}
}

func TestLogarithmOfOneIsNought(t *testing.T) {
	for s := range Sums([]int64{-5}, 8) {
		i := s.Logarithm()
		if valueOf(i.low).Sign() != 0 {
			t.Errorf("from %s", valueOf(i.low).String())
		}
		if word, ok := i.Word(32); word != 0 || !ok {
			t.Errorf("%d, %v", word, ok)
		}
		break
	}
}
