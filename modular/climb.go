package modular

import (
	"math/bits"

	"stithy/api"
)

const (
	parts      = 4
	bitsOfPart = 64
)

// climb reaches what stands for n, from what stands for 0: the doubling makes of what stands for any number what stands
// for its double, the adding what stands for the next one. So it takes as many steps as n has bits, however great n is.
func climb(n, zero api.Word, double, add func(api.Word) api.Word) api.Word {
	reached := zero
	for i := length(n) - 1; i >= 0; i-- {
		reached = double(reached)
		if isSet(n, i) {
			reached = add(reached)
		}
	}
	return reached
}

// partsOf are a's parts, the lowest first.
func partsOf(a api.Word) [parts]uint64 { return [parts]uint64{a.D, a.C, a.B, a.A} }

// isSet tells whether a's bit i is 1, the lowest being 0.
func isSet(a api.Word, i int) bool { return partsOf(a)[i/bitsOfPart]>>(i%bitsOfPart)&1 == 1 }

// length is how many bits a has, without those ahead that are 0.
func length(a api.Word) int {
	all := partsOf(a)
	for i := parts - 1; i >= 0; i-- {
		if all[i] != 0 {
			return i*bitsOfPart + bits.Len64(all[i])
		}
	}
	return 0
}
