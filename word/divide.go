package word

import (
	"math"
	"math/bits"
)

// divide is the quotient and the rest; both 0, if b is 0.
//
// Both numbers are moved left until the divisor's highest bit is set, as only then a digit can be guessed well from the
// highest limbs alone. The move doesn't change the quotient; the rest is moved back.
func divide(a, b limbs) (quotient, rest limbs) {
	if b == (limbs{}) {
		return limbs{}, limbs{}
	}
	zeros := leadingZeros(b)
	divisor := raise(b, zeros)
	low := raise(a, zeros)
	rest = lower(a, bitsOfWord-zeros)
	quotient = down(func(i int) uint64 {
		var digit uint64
		digit, rest = divideOnce(rest, low[i], divisor)
		return digit
	})
	return quotient, lower(rest, zeros)
}

// divideOnce divides the number of five limbs that rest and, below it, next make, and tells one limb of a quotient, and
// the new rest. The divisor's highest bit must be set, and rest must be below it.
func divideOnce(rest limbs, next uint64, divisor limbs) (uint64, limbs) {
	digit := guess(rest[3], rest[2], divisor[3])
	product, over := plusRow(limbs{}, divisor, digit, 0)
	left, borrow := minus(limbs{next, rest[0], rest[1], rest[2]}, product)
	// A guess is too great by 2 at most: then what is left is below 0, and the limb above wraps round.
	above := rest[3] - over - borrow
	for above != 0 {
		var carry uint64
		left, carry = plus(left, divisor)
		above += carry
		digit--
	}
	return digit, left
}

// guess is the limb of a quotient that the two highest limbs and the divisor's highest one make likely.
func guess(high, low, divisor uint64) uint64 {
	if high >= divisor {
		return math.MaxUint64
	}
	digit, _ := bits.Div64(high, low, divisor)
	return digit
}

// leadingZeros is how many bits 0 are ahead of the highest one that is set.
func leadingZeros(a limbs) int {
	zeros := 0
	for i := range parts {
		limb := a[parts-1-i]
		zeros += bits.LeadingZeros64(limb)
		if limb != 0 {
			break
		}
	}
	return zeros
}
