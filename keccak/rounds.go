package keccak

import "math/bits"

const (
	side           = 5
	laneCount      = side * side
	rounds         = 24
	bitsOfConstant = 7
	feedback       = 1<<6 | 1<<5 | 1<<4 | 1
)

// lanes are the state: lane (x, y) is part x + 5y.
type lanes [laneCount]uint64

// walk is where going from (1, 0) on, (x, y) to (y, 2x + 3y), leads: to each lane once, but never to (0, 0).
var walk = [laneCount - 1]int{10, 7, 11, 17, 18, 3, 5, 16, 8, 21, 24, 4, 15, 23, 19, 13, 12, 2, 20, 14, 22, 9, 6, 1}

// turn goes through all rounds, each with the next constant.
func (l *lanes) turn(next func() uint64) {
	for range rounds {
		l.mix()
		l.move()
		l.bend()
		l[0] ^= next()
	}
}

// mix xors each lane with the columns beside its own.
//
// The five lanes of a column are written out, here and below, as a loop over them makes the whole take more than twice as long.
func (l *lanes) mix() {
	var columns [side]uint64
	for x := range side {
		columns[x] = l[x] ^ l[x+side] ^ l[x+2*side] ^ l[x+3*side] ^ l[x+4*side]
	}
	for x := range side {
		beside := columns[(x+side-1)%side] ^ bits.RotateLeft64(columns[(x+1)%side], 1)
		l[x] ^= beside
		l[x+side] ^= beside
		l[x+2*side] ^= beside
		l[x+3*side] ^= beside
		l[x+4*side] ^= beside
	}
}

// move turns each lane left by its own amount, and sets it at its new place, which is the next one of the walk: so one
// lane at a time is carried along it.
func (l *lanes) move() {
	lane := l[1]
	for t, place := range walk {
		lane, l[place] = l[place], bits.RotateLeft64(lane, (t+1)*(t+2)/2)
	}
}

// bend xors each lane with the second one behind it in its row, where the first one behind it has no bit.
func (l *lanes) bend() {
	for y := range side {
		row := l[side*y:][:side]
		a, b, c, d, e := row[0], row[1], row[2], row[3], row[4]
		row[0] = a ^ c&^b
		row[1] = b ^ d&^c
		row[2] = c ^ e&^d
		row[3] = d ^ a&^e
		row[4] = e ^ b&^a
	}
}

// register is FIPS 202's LFSR x^8 + x^6 + x^5 + x^4 + 1: its lowest bit is what it tells.
type register byte

// next is the next round's constant.
func (r *register) next() uint64 {
	var constant uint64
	now := *r
	for j := range bitsOfConstant {
		constant |= uint64(now&1) << (1<<j - 1)
		now = now<<1 ^ now>>7*feedback
	}
	*r = now
	return constant
}
