// Package word is layer 1: numbers of 256 bits (see shared/doc/01-word.md).
package word

import (
	"strings"

	"stithy/api"
)

const (
	bytesOfWord = 32
	bitsOfWord  = 256
	signOfPart  = 1 << 63
	sixteenths  = "0123456789abcdef"
)

// From is n.
func From(n uint64) api.Word { return api.Word{D: n} }

// Bytes is w's 32 bytes, the highest first.
func Bytes(w api.Word) string {
	l := split(w)
	var out [bytesOfWord]byte
	for i := range bytesOfWord {
		limb, bit := placeOf(i)
		out[bytesOfWord-1-i] = byte(l[limb] >> bit)
	}
	return string(out[:])
}

// Of is the number that s's bytes are, the highest first; false, if s has more than 32.
func Of(s string) (api.Word, bool) {
	if len(s) > bytesOfWord {
		return api.Word{}, false
	}
	var l limbs
	for i := range len(s) {
		limb, bit := placeOf(i)
		l[limb] |= uint64(s[len(s)-1-i]) << bit
	}
	return join(l), true
}

// placeOf tells in which limb the byte i stands, counted from the lowest one, and at which bit of it.
func placeOf(i int) (limb, bit int) { return i / 8, i % 8 * 8 }

// Text is 0x and w's sixteenths, none ahead that is 0 (but 0x0).
func Text(w api.Word) string {
	s := Bytes(w)
	var out []byte
	for i := range len(s) {
		out = append(out, sixteenths[s[i]>>4], sixteenths[s[i]&15])
	}
	text := strings.TrimLeft(string(out), "0")
	if text == "" {
		text = "0"
	}
	return "0x" + text
}

// Add is the sum, modulo 2^256.
func Add(a, b api.Word) api.Word {
	sum, _ := plus(split(a), split(b))
	return join(sum)
}

// Sub is the difference, modulo 2^256.
func Sub(a, b api.Word) api.Word {
	rest, _ := minus(split(a), split(b))
	return join(rest)
}

// Mul is the product, modulo 2^256.
func Mul(a, b api.Word) api.Word { return join(times(split(a), split(b))) }

// Div is the quotient, towards 0; 0, if b is 0.
func Div(a, b api.Word) api.Word {
	quotient, _ := divide(split(a), split(b))
	return join(quotient)
}

// Mod is the rest of a division; 0, if b is 0.
func Mod(a, b api.Word) api.Word {
	_, rest := divide(split(a), split(b))
	return join(rest)
}

// Less tells whether a is below b.
func Less(a, b api.Word) bool {
	_, borrow := minus(split(a), split(b))
	return borrow != 0
}

// Below tells whether a is below b, both signed.
func Below(a, b api.Word) bool {
	// With the sign turned round the negative ones stand below the others, each in its order.
	a.A ^= signOfPart
	b.A ^= signOfPart
	return Less(a, b)
}

// Not turns each bit round.
func Not(a api.Word) api.Word {
	x := split(a)
	return join(up(func(i int) uint64 { return ^x[i] }))
}

// And has the bits that both have.
func And(a, b api.Word) api.Word {
	x, y := split(a), split(b)
	return join(up(func(i int) uint64 { return x[i] & y[i] }))
}

// Or has the bits that one of them has.
func Or(a, b api.Word) api.Word {
	x, y := split(a), split(b)
	return join(up(func(i int) uint64 { return x[i] | y[i] }))
}

// Xor has the bits that just one of them has.
func Xor(a, b api.Word) api.Word {
	x, y := split(a), split(b)
	return join(up(func(i int) uint64 { return x[i] ^ y[i] }))
}

// Shl is a, moved left by n bits.
func Shl(n, a api.Word) api.Word { return join(raise(split(a), places(n))) }

// Shr is a, moved right by n bits.
func Shr(n, a api.Word) api.Word { return join(lower(split(a), places(n))) }

// Sar is a, moved right by n bits with its sign.
func Sar(n, a api.Word) api.Word {
	if a.A&signOfPart == 0 {
		return Shr(n, a)
	}
	// Bits 0 come in from the left; turned round, they are the sign's.
	return Not(Shr(n, Not(a)))
}

// places is n, as a move: one by more than all bits does what one by all bits does.
func places(n api.Word) int {
	k, ok := Small(n)
	if !ok || k > bitsOfWord {
		return bitsOfWord
	}
	return int(k)
}

// Byte is a's byte i, the highest one being 0; 0, if i is 32 or more.
func Byte(i, a api.Word) api.Word {
	k, ok := Small(i)
	if !ok || k >= bytesOfWord {
		return api.Word{}
	}
	limb, bit := placeOf(bytesOfWord - 1 - int(k))
	return From(split(a)[limb] >> bit & 0xff)
}

// Small is a's lowest 64 bits, and whether a is below 2^64.
func Small(a api.Word) (uint64, bool) { return a.D, a.A|a.B|a.C == 0 }
