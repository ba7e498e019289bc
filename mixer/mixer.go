// Package mixer: numbers for the tests of the layers, which nothing else calls: the same ones in every run.
package mixer

// Mixer is the state of splitmix64.
type Mixer uint64

func (m *Mixer) Next() uint64 {
	*m += 0x9e3779b97f4a7c15
	z := uint64(*m)
	z = (z ^ z>>30) * 0xbf58476d1ce4e5b9
	z = (z ^ z>>27) * 0x94d049bb133111eb
	return z ^ z>>31
}

// Below is a number from 0 to below n, n being at least 1.
func (m *Mixer) Below(n int) int { return int(m.Next() % uint64(n)) }
