package word

import (
	"math/bits"

	"stithy/api"
)

const (
	parts      = 4
	bitsOfPart = 64
)

// limbs are a number's parts of 64 bits, the lowest first: limb i stands for 2^(64i).
type limbs [parts]uint64

func split(w api.Word) limbs { return limbs{w.D, w.C, w.B, w.A} }

func join(l limbs) api.Word { return api.Word{A: l[3], B: l[2], C: l[1], D: l[0]} }

// at is limb i, and 0 past both ends.
func (l limbs) at(i int) uint64 {
	if i < 0 || i >= parts {
		return 0
	}
	return l[i]
}

// up makes a number of what step tells of each limb, the lowest first: what is carried on, step keeps.
func up(step func(i int) uint64) limbs {
	var out limbs
	for i := range parts {
		out[i] = step(i)
	}
	return out
}

// down does as up, the highest limb first.
func down(step func(i int) uint64) limbs {
	var out limbs
	for i := range parts {
		out[parts-1-i] = step(parts - 1 - i)
	}
	return out
}

// plus is the sum, and what is carried out of it.
func plus(a, b limbs) (limbs, uint64) {
	var carry uint64
	sum := up(func(i int) uint64 {
		var limb uint64
		limb, carry = bits.Add64(a[i], b[i], carry)
		return limb
	})
	return sum, carry
}

// minus is the difference, and what is borrowed for it.
func minus(a, b limbs) (limbs, uint64) {
	var borrow uint64
	rest := up(func(i int) uint64 {
		var limb uint64
		limb, borrow = bits.Sub64(a[i], b[i], borrow)
		return limb
	})
	return rest, borrow
}

// times is the product, without what stands above the highest limb.
func times(a, b limbs) limbs {
	var sum limbs
	for k := range parts {
		sum, _ = plusRow(sum, a, b[k], k)
	}
	return sum
}

// plusRow adds a times digit to sum, a being lifted by so many limbs, and tells what is carried out of it.
func plusRow(sum, a limbs, digit uint64, lift int) (limbs, uint64) {
	var carry uint64
	row := up(func(i int) uint64 {
		var limb uint64
		carry, limb = fuse(a.at(i-lift), digit, sum[i], carry)
		return limb
	})
	return row, carry
}

// fuse is x times y, and m, and n: that is never above 2^128 - 1.
func fuse(x, y, m, n uint64) (high, low uint64) {
	high, low = bits.Mul64(x, y)
	low, carry := bits.Add64(low, m, 0)
	high += carry
	low, carry = bits.Add64(low, n, 0)
	return high + carry, low
}

// raise moves a by n bits towards the highest one.
func raise(a limbs, n int) limbs {
	whole, some := n/bitsOfPart, n%bitsOfPart
	var carry uint64
	return up(func(i int) uint64 {
		from := a.at(i - whole)
		limb := from<<some | carry
		carry = from >> (bitsOfPart - some)
		return limb
	})
}

// lower moves a by n bits towards the lowest one.
func lower(a limbs, n int) limbs {
	whole, some := n/bitsOfPart, n%bitsOfPart
	var carry uint64
	return down(func(i int) uint64 {
		from := a.at(i + whole)
		limb := from>>some | carry
		carry = from << (bitsOfPart - some)
		return limb
	})
}
