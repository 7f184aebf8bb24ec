package modular

import (
	"fmt"
	"math/big"
	"testing"

	"stithy/api"
	"stithy/word"
)

var (
	room = new(big.Int).Lsh(big.NewInt(1), 256)
	all  = api.Word{A: 1<<64 - 1, B: 1<<64 - 1, C: 1<<64 - 1, D: 1<<64 - 1}
	high = api.Word{A: 1 << 63}
	most = api.Word{A: 1<<63 - 1, B: 1<<64 - 1, C: 1<<64 - 1, D: 1<<64 - 1}
	zero = api.Word{}
)

func small(n uint64) api.Word { return api.Word{D: n} }

func minus(n uint64) api.Word { return word.Sub(zero, small(n)) }

// number is w by the first chapter's words.
func number(w api.Word) *big.Int {
	n := new(big.Int)
	for _, part := range []uint64{w.A, w.B, w.C, w.D} {
		n.Lsh(n, 64).Add(n, new(big.Int).SetUint64(part))
	}
	return n
}

func signedNumber(w api.Word) *big.Int {
	n := number(w)
	if n.Bit(255) == 1 {
		n.Sub(n, room)
	}
	return n
}

// same tells whether w is n modulo 2^256.
func same(w api.Word, n *big.Int) bool { return number(w).Cmp(new(big.Int).Mod(n, room)) == 0 }

// checkNumber tells it, if got isn't want modulo 2^256.
func checkNumber(t *testing.T, got api.Word, want *big.Int, what string, about ...api.Word) {
	t.Helper()
	if !same(got, want) {
		t.Errorf("%s %x: %x, not %x", what, about, got, new(big.Int).Mod(want, room))
	}
}

// checkWord tells it, if got isn't want.
func checkWord(t *testing.T, what string, got, want api.Word) {
	t.Helper()
	if got != want {
		t.Errorf("%s: %x, not %x", what, got, want)
	}
}

// edges are words about the borders of parts, bytes and signs.
func edges() []api.Word {
	out := []api.Word{zero, all, high, most, minus(2), minus(7), minus(1 << 63), {A: 1<<63 + 1}, {A: 1 << 63, D: 1}}
	for _, n := range []uint64{1, 2, 3, 7, 31, 128, 255, 256, 1<<63 - 1, 1 << 63, 1<<64 - 1} {
		out = append(out, api.Word{D: n}, api.Word{C: n}, api.Word{B: n}, api.Word{A: n}, api.Word{A: n, D: n})
	}
	return out
}

// next goes through all numbers of 64 bits but 0, always in the same order.
func next(seed *uint64) uint64 {
	*seed ^= *seed << 13
	*seed ^= *seed >> 7
	*seed ^= *seed << 17
	return *seed
}

// mixed are words of all lengths whose parts are many things, 0 and all bits often among them.
func mixed(count int) []api.Word {
	seed := uint64(0x9e3779b97f4a7c15)
	part := func() uint64 {
		switch next(&seed) % 5 {
		case 0:
			return 0
		case 1:
			return 1<<64 - 1
		}
		return next(&seed)
	}
	var out []api.Word
	for range count {
		w := api.Word{A: part(), B: part(), C: part(), D: part()}
		switch next(&seed) % 5 {
		case 0:
			w.A = 0
		case 1:
			w.A, w.B = 0, 0
		case 2:
			w.A, w.B, w.C = 0, 0, 0
		}
		out = append(out, w)
	}
	return out
}

// pairs hands over edges with edges, and many mixed ones.
func pairs(try func(a, b api.Word)) {
	for _, a := range edges() {
		for _, b := range edges() {
			try(a, b)
		}
	}
	words := mixed(10000)
	for i := 0; i+1 < len(words); i += 2 {
		try(words[i], words[i+1])
		try(words[i], words[i])
	}
}

// triples hands over all threes of a few edges, and many mixed ones.
func triples(try func(a, b, m api.Word)) {
	few := []api.Word{zero, small(1), small(2), small(3), {C: 1}, {B: 1, D: 1}, {A: 1}, most, high, {A: 1 << 63, D: 1}, minus(2), all}
	for _, a := range few {
		for _, b := range few {
			for _, m := range few {
				try(a, b, m)
			}
		}
	}
	words := mixed(6000)
	for i := 0; i+2 < len(words); i += 3 {
		try(words[i], words[i+1], words[i+2])
		try(words[i], words[i], words[i+1])
		try(words[i], words[i+1], words[i])
	}
}

// P2.1

func TestSDivSMod(t *testing.T) {
	pairs(func(a, b api.Word) {
		var quotient, rest big.Int
		if b != zero {
			quotient.QuoRem(signedNumber(a), signedNumber(b), &rest)
		}
		checkNumber(t, SDiv(a, b), &quotient, "SDiv", a, b)
		checkNumber(t, SMod(a, b), &rest, "SMod", a, b)
	})
}

func TestSigns(t *testing.T) {
	for _, c := range []struct{ a, b, quotient, rest api.Word }{
		{small(7), small(2), small(3), small(1)},
		{minus(7), small(2), minus(3), minus(1)},
		{small(7), minus(2), minus(3), small(1)},
		{minus(7), minus(2), small(3), minus(1)},
		{minus(8), small(2), minus(4), zero},
		{minus(1), small(2), zero, minus(1)},
		{small(1), minus(2), zero, small(1)},
		{high, all, high, zero},
		{high, small(1), high, zero},
		{high, high, small(1), zero},
		{all, high, zero, all},
		{most, high, zero, most},
		{high, most, all, all},
		{high, small(2), api.Word{A: 3 << 62}, zero},
		{high, minus(2), api.Word{A: 1 << 62}, zero},
		{zero, minus(3), zero, zero},
	} {
		checkWord(t, fmt.Sprintf("SDiv %x %x", c.a, c.b), SDiv(c.a, c.b), c.quotient)
		checkWord(t, fmt.Sprintf("SMod %x %x", c.a, c.b), SMod(c.a, c.b), c.rest)
	}
}

func TestByZero(t *testing.T) {
	pairs(func(a, b api.Word) {
		checkWord(t, "SDiv by 0", SDiv(a, zero), zero)
		checkWord(t, "SMod by 0", SMod(a, zero), zero)
		checkWord(t, "AddMod by 0", AddMod(a, b, zero), zero)
		checkWord(t, "MulMod by 0", MulMod(a, b, zero), zero)
	})
}

func TestAddModMulMod(t *testing.T) {
	triples(func(a, b, m api.Word) {
		sum, product := new(big.Int).Add(number(a), number(b)), new(big.Int).Mul(number(a), number(b))
		if m == zero {
			sum, product = new(big.Int), new(big.Int)
		} else {
			sum.Mod(sum, number(m))
			product.Mod(product, number(m))
		}
		checkNumber(t, AddMod(a, b, m), sum, "AddMod", a, b, m)
		checkNumber(t, MulMod(a, b, m), product, "MulMod", a, b, m)
	})
}

// TestNoRoomLost: where the sum or the product is past 2^256, and its rest isn't that of what would be left of it.
func TestNoRoomLost(t *testing.T) {
	for _, c := range []struct{ got, want api.Word }{
		{AddMod(all, all, small(7)), small(2)},
		{AddMod(all, small(1), all), small(1)},
		{AddMod(minus(2), minus(2), all), minus(3)},
		{AddMod(high, high, all), small(1)},
		{AddMod(all, all, small(1)), zero},
		{MulMod(all, all, small(12)), small(9)},
		{MulMod(all, all, all), zero},
		{MulMod(minus(2), minus(2), all), small(1)},
		{MulMod(high, small(2), all), small(1)},
		{MulMod(all, all, small(1)), zero},
		{MulMod(all, small(2), api.Word{A: 1}), api.Word{B: 1<<64 - 1, C: 1<<64 - 1, D: 1<<64 - 2}},
	} {
		checkWord(t, "rest", c.got, c.want)
	}
}

func TestAddModMulModTurned(t *testing.T) {
	triples(func(a, b, m api.Word) {
		checkWord(t, "AddMod turned", AddMod(a, b, m), AddMod(b, a, m))
		checkWord(t, "MulMod turned", MulMod(a, b, m), MulMod(b, a, m))
	})
}

// P2.2

func TestExp(t *testing.T) {
	try := func(a, n api.Word) {
		checkNumber(t, Exp(a, n), new(big.Int).Exp(number(a), number(n), room), "Exp", a, n)
	}
	for _, a := range edges() {
		for _, n := range edges() {
			try(a, n)
		}
	}
	words := mixed(2000)
	for i := 0; i+1 < len(words); i += 2 {
		try(words[i], words[i+1])
	}
}

func TestPowersOfTwo(t *testing.T) {
	for n := range uint64(300) {
		checkNumber(t, Exp(small(2), small(n)), new(big.Int).Lsh(big.NewInt(1), uint(n)), "2 to the power of", small(n))
	}
}

func TestPowersOfZeroAndByZero(t *testing.T) {
	for _, a := range append(edges(), mixed(500)...) {
		checkWord(t, fmt.Sprintf("%x to the power of 0", a), Exp(a, zero), small(1))
		checkWord(t, fmt.Sprintf("%x to the power of 1", a), Exp(a, small(1)), a)
		checkWord(t, fmt.Sprintf("1 to the power of %x", a), Exp(small(1), a), small(1))
		if a != zero {
			checkWord(t, fmt.Sprintf("0 to the power of %x", a), Exp(zero, a), zero)
		}
	}
}

func TestSignExtend(t *testing.T) {
	for _, a := range append(edges(), mixed(1000)...) {
		for k := range uint64(40) {
			checkNumber(t, SignExtend(small(k), a), extended(k, a), fmt.Sprint("SignExtend ", k), a)
		}
	}
}

// extended is a's lowest k and 1 bytes, less 2^8(k+1), if the highest bit of them is set.
func extended(k uint64, a api.Word) *big.Int {
	if k >= 31 {
		return number(a)
	}
	whole := new(big.Int).Lsh(big.NewInt(1), 8*uint(k+1))
	n := new(big.Int).Mod(number(a), whole)
	if n.Bit(8*int(k+1)-1) == 1 {
		n.Sub(n, whole)
	}
	return n
}

func TestSignExtendExamples(t *testing.T) {
	for _, c := range []struct{ k, a, want api.Word }{
		{zero, small(0xff), all},
		{zero, small(0x80), minus(0x80)},
		{zero, small(0x7f), small(0x7f)},
		{zero, small(0x17f), small(0x7f)},
		{zero, all, all},
		{zero, minus(0x100), zero},
		{small(1), small(0x8000), minus(0x8000)},
		{small(1), small(0xff7fff), small(0x7fff)},
		{small(7), small(1 << 63), minus(1 << 63)},
		{small(30), api.Word{A: 1 << 55}, api.Word{A: 0xff80 << 48}},
		{small(30), api.Word{A: 0xff << 56}, zero},
		{small(31), small(0xff), small(0xff)},
		{small(31), high, high},
	} {
		checkWord(t, fmt.Sprintf("SignExtend %x %x", c.k, c.a), SignExtend(c.k, c.a), c.want)
	}
}

// TestSignExtendByMany: k far past the bytes; also where its lowest bits alone would be few.
func TestSignExtendByMany(t *testing.T) {
	for _, k := range []api.Word{small(32), small(255), small(256), small(1 << 32), small(1 << 61), small(1<<64 - 1), {C: 1}, {B: 1, D: 1}, {A: 1, D: 30}, high, minus(1), minus(31)} {
		for _, a := range append(edges(), mixed(100)...) {
			checkWord(t, fmt.Sprintf("SignExtend %x", k), SignExtend(k, a), a)
		}
	}
}

func TestSize(t *testing.T) {
	if got := Size(zero); got != 0 {
		t.Errorf("of 0: %d", got)
	}
	for bit := range uint(256) {
		least := word.Shl(small(uint64(bit)), small(1))
		greatest := word.Shr(small(uint64(255-bit)), all)
		for _, a := range []api.Word{least, greatest} {
			if got, want := Size(a), int(bit)/8+1; got != want {
				t.Errorf("%x: %d, not %d", a, got, want)
			}
		}
	}
	for _, a := range append(edges(), mixed(4000)...) {
		if got, want := Size(a), len(number(a).Bytes()); got != want {
			t.Errorf("%x: %d, not %d", a, got, want)
		}
	}
}

// P2.3

// TestPowerOfSum: the sum is one that has room, as of one that wraps round nothing of the kind holds (of 2 and twice 2^255).
func TestPowerOfSum(t *testing.T) {
	words := mixed(3000)
	for i := 0; i+2 < len(words); i += 3 {
		a, n, k := words[i], word.Shr(small(1), words[i+1]), word.Shr(small(1), words[i+2])
		checkWord(t, fmt.Sprintf("%x to the power of %x and %x", a, n, k), Exp(a, word.Add(n, k)), word.Mul(Exp(a, n), Exp(a, k)))
	}
}

// TestClimb: over numbers that double and add as such, it reaches the number itself, in no more steps than it has bits.
func TestClimb(t *testing.T) {
	for _, n := range append(edges(), mixed(500)...) {
		doubled, added := 0, 0
		got := climb(n, zero,
			func(w api.Word) api.Word { doubled++; return word.Add(w, w) },
			func(w api.Word) api.Word { added++; return word.Add(w, small(1)) })
		checkWord(t, "climbed", got, n)
		if bits := number(n).BitLen(); doubled > bits || added > bits {
			t.Errorf("%x: doubled %d times, added %d times", n, doubled, added)
		}
	}
}

func BenchmarkMulMod(b *testing.B) {
	for b.Loop() {
		MulMod(minus(3), minus(5), minus(2))
	}
}

func BenchmarkExp(b *testing.B) {
	for b.Loop() {
		Exp(minus(3), all)
	}
}
