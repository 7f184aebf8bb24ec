package word

import (
	"fmt"
	"math/big"
	"strings"
	"testing"

	"stithy/api"
)

var (
	room = new(big.Int).Lsh(big.NewInt(1), 256)
	all  = api.Word{A: 1<<64 - 1, B: 1<<64 - 1, C: 1<<64 - 1, D: 1<<64 - 1}
	high = api.Word{A: 1 << 63}
)

// number is w by the chapter's own words.
func number(w api.Word) *big.Int {
	n := new(big.Int)
	for _, part := range []uint64{w.A, w.B, w.C, w.D} {
		n.Lsh(n, 64).Add(n, new(big.Int).SetUint64(part))
	}
	return n
}

func signed(w api.Word) *big.Int {
	n := number(w)
	if n.Bit(255) == 1 {
		n.Sub(n, room)
	}
	return n
}

// same tells whether w is n modulo 2^256.
func same(w api.Word, n *big.Int) bool { return number(w).Cmp(new(big.Int).Mod(n, room)) == 0 }

// edges are words about the borders of limbs, bytes and signs.
func edges() []api.Word {
	out := []api.Word{{}, all, high, {A: 1<<63 - 1, B: 1<<64 - 1, C: 1<<64 - 1, D: 1<<64 - 1}}
	for _, n := range []uint64{1, 2, 3, 7, 31, 32, 64, 100, 255, 256, 257, 1 << 32, 1<<63 - 1, 1 << 63, 1<<64 - 1} {
		out = append(out, api.Word{D: n}, api.Word{C: n}, api.Word{B: n}, api.Word{A: n}, api.Word{A: n, D: n}, api.Word{B: n, C: ^n})
	}
	return out
}

// next goes through all numbers of 64 bits but 0, always in the same order.
func next(seed *uint64) uint64 {
	*seed ^= *seed << 13
	*seed ^= *seed >> 7
	*seed ^= *seed << 17
	return *seed
}

// mixed are words of all lengths whose limbs are many things, 0 and all bits often among them.
func mixed(count int) []api.Word {
	seed := uint64(0x9e3779b97f4a7c15)
	limb := func() uint64 {
		switch next(&seed) % 5 {
		case 0:
			return 0
		case 1:
			return 1<<64 - 1
		case 2:
			return 1 << (next(&seed) % 64)
		}
		return next(&seed)
	}
	var out []api.Word
	for range count {
		w := api.Word{A: limb(), B: limb(), C: limb(), D: limb()}
		switch next(&seed) % 4 {
		case 0:
			w.A = 0
		case 1:
			w.A, w.B = 0, 0
		case 2:
			w.A, w.B, w.C = 0, 0, 0
		}
		out = append(out, w)
	}
	return out
}

// pairs hands over edges with edges, and many mixed ones.
func pairs(try func(a, b api.Word)) {
	for _, a := range edges() {
		for _, b := range edges() {
			try(a, b)
		}
	}
	words := mixed(40000)
	for i := 0; i+1 < len(words); i += 2 {
		try(words[i], words[i+1])
		try(words[i], words[i])
	}
}

// singles hands over edges, and many mixed ones.
func singles(try func(a api.Word)) {
	for _, a := range append(edges(), mixed(4000)...) {
		try(a)
	}
}

// checkWord tells it, if got isn't want.
func checkWord(t *testing.T, what string, got, want api.Word) {
	t.Helper()
	if got != want {
		t.Errorf("%s: %x, not %x", what, got, want)
	}
}

// P1.1

func TestFrom(t *testing.T) {
	for _, n := range []uint64{0, 1, 255, 1 << 32, 1<<64 - 1} {
		checkWord(t, fmt.Sprint("From ", n), From(n), api.Word{D: n})
	}
}

func TestBytes(t *testing.T) {
	w := api.Word{A: 0x0102030405060708, B: 0x090a0b0c0d0e0f10, C: 0x1112131415161718, D: 0x191a1b1c1d1e1f20}
	want := "\x01\x02\x03\x04\x05\x06\x07\x08\x09\x0a\x0b\x0c\x0d\x0e\x0f\x10\x11\x12\x13\x14\x15\x16\x17\x18\x19\x1a\x1b\x1c\x1d\x1e\x1f\x20"
	if got := Bytes(w); got != want {
		t.Errorf("%x", got)
	}
	singles(func(a api.Word) {
		if got, want := Bytes(a), string(number(a).FillBytes(make([]byte, 32))); got != want {
			t.Errorf("%x: %x", a, got)
		}
	})
}

func TestOf(t *testing.T) {
	long := "\x01\x02\x03\x04\x05\x06\x07\x08\x09\x0a\x0b\x0c\x0d\x0e\x0f\x10\x11\x12\x13\x14\x15\x16\x17\x18\x19\x1a\x1b\x1c\x1d\x1e\x1f\xff"
	for size := range len(long) + 1 {
		for _, s := range []string{long[:size], long[len(long)-size:], strings.Repeat("\xff", size), strings.Repeat("\x00", size)} {
			if w, ok := Of(s); !ok || number(w).Cmp(new(big.Int).SetBytes([]byte(s))) != 0 {
				t.Errorf("%x: %x %v", s, w, ok)
			}
		}
	}
}

func TestOfTooLong(t *testing.T) {
	for _, size := range []int{33, 34, 64, 1000, api.MaxBytes} {
		for _, b := range []string{"\x00", "\x01", "\xff"} {
			if w, ok := Of(strings.Repeat(b, size)); ok || w != (api.Word{}) {
				t.Errorf("%d of %x: %x %v", size, b, w, ok)
			}
		}
	}
	if w, ok := Of(strings.Repeat("\x00", 32) + "\x01"); ok || w != (api.Word{}) {
		t.Errorf("%x %v", w, ok)
	}
}

func TestText(t *testing.T) {
	for _, c := range []struct {
		w    api.Word
		want string
	}{
		{api.Word{}, "0x0"}, {From(9), "0x9"}, {From(10), "0xa"}, {From(16), "0x10"}, {From(0x0abcdef0), "0xabcdef0"},
		{api.Word{C: 1}, "0x1" + strings.Repeat("0", 16)}, {high, "0x8" + strings.Repeat("0", 63)}, {all, "0x" + strings.Repeat("f", 64)},
	} {
		if got := Text(c.w); got != c.want {
			t.Errorf("%x: %s", c.w, got)
		}
	}
	singles(func(a api.Word) {
		if got, want := Text(a), "0x"+number(a).Text(16); got != want {
			t.Errorf("%s, not %s", got, want)
		}
	})
}

func TestSmall(t *testing.T) {
	for _, c := range []struct {
		w  api.Word
		n  uint64
		ok bool
	}{
		{api.Word{}, 0, true}, {From(7), 7, true}, {From(1<<64 - 1), 1<<64 - 1, true},
		{api.Word{C: 1}, 0, false}, {api.Word{C: 1, D: 7}, 7, false}, {api.Word{B: 1, D: 8}, 8, false}, {api.Word{A: 1, D: 9}, 9, false},
		{high, 0, false}, {all, 1<<64 - 1, false},
	} {
		if n, ok := Small(c.w); n != c.n || ok != c.ok {
			t.Errorf("%x: %d %v", c.w, n, ok)
		}
	}
}

// P1.2

func TestAddSubMul(t *testing.T) {
	pairs(func(a, b api.Word) {
		x, y := number(a), number(b)
		if got := Add(a, b); !same(got, new(big.Int).Add(x, y)) {
			t.Errorf("%x + %x: %x", a, b, got)
		}
		if got := Sub(a, b); !same(got, new(big.Int).Sub(x, y)) {
			t.Errorf("%x - %x: %x", a, b, got)
		}
		if got := Mul(a, b); !same(got, new(big.Int).Mul(x, y)) {
			t.Errorf("%x * %x: %x", a, b, got)
		}
	})
}

func TestWrapRound(t *testing.T) {
	checkWord(t, "0 - 1", Sub(From(0), From(1)), all)
	checkWord(t, "all + 1", Add(all, From(1)), From(0))
	checkWord(t, "all + all", Add(all, all), Sub(all, From(1)))
	checkWord(t, "all * all", Mul(all, all), From(1))
	checkWord(t, "high * 2", Mul(high, From(2)), From(0))
}

func TestDivMod(t *testing.T) {
	pairs(func(a, b api.Word) {
		var quotient, rest big.Int
		if number(b).Sign() != 0 {
			quotient.QuoRem(number(a), number(b), &rest)
		}
		if got := Div(a, b); !same(got, &quotient) {
			t.Errorf("%x / %x: %x", a, b, got)
		}
		if got := Mod(a, b); !same(got, &rest) {
			t.Errorf("%x %% %x: %x", a, b, got)
		}
	})
}

func TestDivModByZero(t *testing.T) {
	singles(func(a api.Word) {
		checkWord(t, "quotient", Div(a, From(0)), From(0))
		checkWord(t, "rest", Mod(a, From(0)), From(0))
	})
}

// TestGuesses: where the first guess of a quotient's limb is right, too great by 1, too great by 2, or all bits.
func TestGuesses(t *testing.T) {
	for _, c := range []struct {
		rest      limbs
		next      uint64
		divisor   limbs
		tooGreat  uint64
		highLimbs bool
	}{
		{limbs{0, 0, 0, 5}, 0, limbs{0, 0, 0, 1 << 63}, 0, false},
		{limbs{0, 0, 0, 1}, 0, limbs{0, 0, 1<<64 - 1, 1 << 63}, 1, false},
		{limbs{0, 0, 0, 1<<63 - 1}, 0, limbs{0, 0, 1<<64 - 1, 1 << 63}, 2, false},
		{limbs{0, 0, 0, 1 << 63}, 0, limbs{1, 0, 0, 1 << 63}, 0, true},
		{limbs{0, 0, 0, 1 << 63}, 0, limbs{0, 0, 5, 1 << 63}, 0, true},
	} {
		if (c.rest[3] >= c.divisor[3]) != c.highLimbs {
			t.Errorf("%x by %x: the highest limbs", c.rest, c.divisor)
		}
		whole := new(big.Int).Lsh(number(join(c.rest)), 64)
		whole.Add(whole, new(big.Int).SetUint64(c.next))
		quotient, left := new(big.Int).QuoRem(whole, number(join(c.divisor)), new(big.Int))
		digit, rest := divideOnce(c.rest, c.next, c.divisor)
		if digit != quotient.Uint64() || number(join(rest)).Cmp(left) != 0 {
			t.Errorf("%x by %x: %x and %x, not %x and %x", whole, c.divisor, digit, rest, quotient, left)
		}
		if first := guess(c.rest[3], c.rest[2], c.divisor[3]); first-digit != c.tooGreat {
			t.Errorf("%x by %x: guessed %x of %x", whole, c.divisor, first, digit)
		}
	}
}

func TestLessBelow(t *testing.T) {
	pairs(func(a, b api.Word) {
		if got, want := Less(a, b), number(a).Cmp(number(b)) < 0; got != want {
			t.Errorf("Less %x %x: %v", a, b, got)
		}
		if got, want := Below(a, b), signed(a).Cmp(signed(b)) < 0; got != want {
			t.Errorf("Below %x %x: %v", a, b, got)
		}
	})
}

func TestOrderOfSigns(t *testing.T) {
	rising := []api.Word{high, Add(high, From(1)), Sub(all, From(1)), all, From(0), From(1), Sub(high, From(1))}
	for i, a := range rising {
		for k, b := range rising {
			if got := Below(a, b); got != (i < k) {
				t.Errorf("Below %x %x: %v", a, b, got)
			}
		}
	}
	if Less(all, From(0)) || !Less(From(0), all) || Less(high, Sub(high, From(1))) {
		t.Error("Less sees a sign")
	}
}

// P1.3

func TestBits(t *testing.T) {
	pairs(func(a, b api.Word) {
		x, y := number(a), number(b)
		if got := Not(a); !same(got, new(big.Int).Not(x)) {
			t.Errorf("not %x: %x", a, got)
		}
		if got := And(a, b); !same(got, new(big.Int).And(x, y)) {
			t.Errorf("%x and %x: %x", a, b, got)
		}
		if got := Or(a, b); !same(got, new(big.Int).Or(x, y)) {
			t.Errorf("%x or %x: %x", a, b, got)
		}
		if got := Xor(a, b); !same(got, new(big.Int).Xor(x, y)) {
			t.Errorf("%x xor %x: %x", a, b, got)
		}
	})
}

func TestMoves(t *testing.T) {
	for _, a := range append(edges(), mixed(200)...) {
		for n := range uint(260) {
			checkMoves(t, From(uint64(n)), a, n)
		}
	}
}

// TestLongMoves: by far more than all bits; also where the lowest bits of the way alone would be a short one.
func TestLongMoves(t *testing.T) {
	for _, n := range []api.Word{From(256), From(257), From(300), From(512), From(1 << 32), From(1<<32 + 1), From(1 << 63), From(1<<64 - 1), {C: 1}, {C: 1, D: 1}, {B: 1, D: 4}, {A: 1, D: 8}, high, all} {
		singles(func(a api.Word) { checkMoves(t, n, a, 256) })
	}
}

// checkMoves moves a by n, which is to do what a move by count does.
func checkMoves(t *testing.T, n, a api.Word, count uint) {
	t.Helper()
	if got := Shl(n, a); !same(got, new(big.Int).Lsh(number(a), count)) {
		t.Errorf("Shl %x %x: %x", n, a, got)
	}
	if got := Shr(n, a); !same(got, new(big.Int).Rsh(number(a), count)) {
		t.Errorf("Shr %x %x: %x", n, a, got)
	}
	if got := Sar(n, a); !same(got, new(big.Int).Rsh(signed(a), count)) {
		t.Errorf("Sar %x %x: %x", n, a, got)
	}
}

func TestByte(t *testing.T) {
	singles(func(a api.Word) {
		whole := number(a).FillBytes(make([]byte, 32))
		for i := range uint64(32) {
			checkWord(t, fmt.Sprint("byte ", i), Byte(From(i), a), api.Word{D: uint64(whole[i])})
		}
	})
	for _, i := range []api.Word{From(32), From(33), From(1<<64 - 1), From(1 << 63), {C: 1}, {B: 1, D: 3}, {A: 1, D: 31}, high, all} {
		checkWord(t, fmt.Sprintf("byte %x", i), Byte(i, all), From(0))
	}
}

// P1.4

func TestQuotientAndRest(t *testing.T) {
	pairs(func(a, b api.Word) {
		if b == (api.Word{}) {
			return
		}
		checkWord(t, fmt.Sprintf("%x by %x", a, b), Add(Mul(Div(a, b), b), Mod(a, b)), a)
		if !Less(Mod(a, b), b) {
			t.Errorf("%x by %x: the rest is no rest", a, b)
		}
	})
}

func TestReadBack(t *testing.T) {
	singles(func(a api.Word) {
		if got, ok := Of(Bytes(a)); got != a || !ok {
			t.Errorf("%x: %x %v", a, got, ok)
		}
		if n, ok := new(big.Int).SetString(Text(a)[2:], 16); !ok || !same(a, n) {
			t.Errorf("%x: %s", a, Text(a))
		}
	})
}
