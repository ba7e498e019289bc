package loss

import (
	"slices"

	"ratchet/api"
	"ratchet/wide"
)

// mean is R of all parts together over so many times how many there are: of each word of a and the one of b there is one, told by how far apart they are.
func mean(a, b api.Tensor, times int64, part func(apart int64) api.Wide) (api.Tensor, api.Errno) {
	if !slices.Equal(a.Shape, b.Shape) {
		return api.Tensor{}, api.ErrShape
	}
	var sum api.Wide
	for n, v := range a.Data {
		apart := v - b.Data[n]
		// A part is below 2^96, and there are 2^16 at most, so there is no error.
		sum, _ = wide.Add(sum, part(max(apart, -apart)))
	}
	rounded, _ := wide.Round(sum, wide.From(times*int64(len(a.Data))))
	return told(rounded)
}
