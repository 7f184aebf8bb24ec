package keccak

import (
	"crypto/sha3"
	"encoding/binary"
	"encoding/hex"
	"math/bits"
	"strings"
	"sync"
	"testing"
)

// roundConstants are those that FIPS 202 leads to.
var roundConstants = [24]uint64{
	0x0000000000000001, 0x0000000000008082, 0x800000000000808a, 0x8000000080008000, 0x000000000000808b, 0x0000000080000001,
	0x8000000080008081, 0x8000000000008009, 0x000000000000008a, 0x0000000000000088, 0x0000000080008009, 0x000000008000000a,
	0x000000008000808b, 0x800000000000008b, 0x8000000000008089, 0x8000000000008003, 0x8000000000008002, 0x8000000000000080,
	0x000000000000800a, 0x800000008000000a, 0x8000000080008081, 0x8000000000008080, 0x0000000080000001, 0x8000000080008008,
}

// next goes through all numbers of 64 bits but 0, always in the same order.
func next(seed *uint64) uint64 {
	*seed ^= *seed << 13
	*seed ^= *seed >> 7
	*seed ^= *seed << 17
	return *seed
}

// states are those of all bits, of none, of a few single ones, and many mixed ones.
func states(mixed int) [][25]uint64 {
	var all [25]uint64
	for i := range all {
		all[i] = ^uint64(0)
	}
	out := [][25]uint64{{}, all}
	for i := range all {
		for _, bit := range []uint64{1, 1 << 31, 1 << 63} {
			var single [25]uint64
			single[i] = bit
			out = append(out, single)
		}
	}
	seed := uint64(0x9e3779b97f4a7c15)
	for range mixed {
		var a [25]uint64
		for i := range a {
			a[i] = next(&seed)
		}
		out = append(out, a)
	}
	return out
}

// text is so many bytes, of all kinds.
func text(size int) string {
	seed := uint64(size)*2 + 1
	out := make([]byte, size)
	for i := range out {
		out[i] = byte(next(&seed) >> 40)
	}
	return string(out)
}

// filled is s, and behind it first, bytes 0, and the highest bit of the last one, up to whole blocks.
func filled(s string, rate int, first byte) string {
	out := append([]byte(s), first)
	for len(out)%rate != 0 {
		out = append(out, 0)
	}
	out[len(out)-1] ^= 0x80
	return string(out)
}

// squeezed is what a sponge over Permute, built byte by byte, tells of s: rate bytes a block.
func squeezed(s string, rate int, first byte, size int) string {
	left := filled(s, rate, first)
	var state [200]byte
	for ; len(left) > 0; left = left[rate:] {
		for i := range rate {
			state[i] ^= left[i]
		}
		state = permutedBytes(state)
	}
	var out []byte
	for len(out) < size {
		out = append(out, state[:rate]...)
		state = permutedBytes(state)
	}
	return string(out[:size])
}

func permutedBytes(state [200]byte) [200]byte {
	var a [25]uint64
	for i := range a {
		a[i] = binary.LittleEndian.Uint64(state[8*i:])
	}
	for i, lane := range Permute(a) {
		binary.LittleEndian.PutUint64(state[8*i:], lane)
	}
	return state
}

// P3.1

func TestPermuteOfNothing(t *testing.T) {
	once := Permute([25]uint64{})
	if want := [25]uint64{
		0xf1258f7940e1dde7, 0x84d5ccf933c0478a, 0xd598261ea65aa9ee, 0xbd1547306f80494d, 0x8b284e056253d057,
		0xff97a42d7f8e6fd4, 0x90fee5a0a44647c4, 0x8c5bda0cd6192e76, 0xad30a6f71b19059c, 0x30935ab7d08ffc64,
		0xeb5aa93f2317d635, 0xa9a6e6260d712103, 0x81a57c16dbcf555f, 0x43b831cd0347c826, 0x01f22f1a11a5569f,
		0x05e5635a21d9ae61, 0x64befef28cc970f2, 0x613670957bc46611, 0xb87c5a554fd00ecb, 0x8c3ee88a1ccf32c8,
		0x940c7922ae3a2614, 0x1841f924a2c509e4, 0x16f53526e70465c2, 0x75f644e97f30a13b, 0xeaf1ff7b5ceca249,
	}; once != want {
		t.Errorf("once: %x", once)
	}
	if twice := Permute(once); twice[0] != 0x2d5c954df96ecb3c || twice[1] != 0x6a332cd07057b56d || twice[24] != 0x20d06cd26a8fbf5c {
		t.Errorf("twice: %x", twice)
	}
}

// TestPermuteInOtherSums: the library's sums are made of the same rounds, so sponges over Permute tell what they tell.
// As they have other rates, and tell more than one block, they reach all lanes.
func TestPermuteInOtherSums(t *testing.T) {
	for size := range 600 {
		s := text(size)
		if want := sha3.Sum256([]byte(s)); squeezed(s, 136, 0x06, 32) != string(want[:]) {
			t.Errorf("256 bits of %d bytes", size)
		}
		if want := sha3.Sum512([]byte(s)); squeezed(s, 72, 0x06, 64) != string(want[:]) {
			t.Errorf("512 bits of %d bytes", size)
		}
		if want := sha3.SumSHAKE128([]byte(s), 700); squeezed(s, 168, 0x1f, 700) != string(want) {
			t.Errorf("700 bytes of %d bytes", size)
		}
	}
}

// TestConstants: the bit t of the register is what t steps by the polynomial, from 1 on, leave as the lowest one.
func TestConstants(t *testing.T) {
	constants := register(1)
	step, polynomial := 1, 1<<8|1<<6|1<<5|1<<4|1
	for i := range 24 {
		var want uint64
		for j := range 7 {
			want |= uint64(step&1) << (1<<j - 1)
			step <<= 1
			if step>>8 == 1 {
				step ^= polynomial
			}
		}
		if got := constants.next(); got != want || got != roundConstants[i] {
			t.Errorf("round %d: %x, not %x, %x", i, got, want, roundConstants[i])
		}
	}
}

func TestWalk(t *testing.T) {
	x, y := 1, 0
	for i, place := range walk {
		x, y = y, (2*x+3*y)%5
		if place != x+5*y {
			t.Errorf("step %d: %d, not %d", i, place, x+5*y)
		}
	}
	if x != 1 || y != 0 {
		t.Errorf("it ends at (%d, %d)", x, y)
	}
}

// TestPermuteLeavesWhatItWasGiven: also what is told of it hangs on nothing that was permuted before.
func TestPermuteLeavesWhatItWasGiven(t *testing.T) {
	for _, a := range states(20) {
		before := a
		first := Permute(a)
		if a != before || Permute(a) != first {
			t.Errorf("%x", before)
		}
	}
}

// P3.2

func TestSums(t *testing.T) {
	for s, want := range map[string]string{
		"":                                  "c5d2460186f7233c927e7db2dcc703c0e500b653ca82273b7bfad8045d85a470",
		"abc":                               "4e03657aea45a94fc7d47ba826c8d667c0d1e6e33a64a036ec44f58fa12d6c45",
		"hello":                             "1c8aff950685c2ed4bc3174f3472287b56d9517b9c948127319a09a7a36deac8",
		"testing":                           "5f16f4c7f149ac4f9510d9cf8cf384038ad348b3bcdc01915f95de12df9d1b02",
		"\x80":                              "56e81f171bcc55a6ff8345e692c0f86e5b48e01b996cadc001622fb5e363b421",
		"\xc0":                              "1dcc4de8dec75d7aab85b567b6ccd41ad312451b948a7413f0a142fd40d49347",
		"transfer(address,uint256)":         "a9059cbb2ab09eb219583f4a59a5d0623ade346d962bcd4e46b11da047c9049b",
		"Transfer(address,address,uint256)": "ddf252ad1be2c89b69c2b068fc378daa952ba7f163c4a11628f55a4df523b3ef",
		"The quick brown fox jumps over the lazy dog":  "4d741b6f1eb29cb2a9b9911c82f56fa8d73b04959d3d9d222895df6c0b28aa15",
		"The quick brown fox jumps over the lazy dog.": "578951e24efd62a3d63a86f7cd19aaa53c898fe287d2552133220370240b572d",
	} {
		if got := hex.EncodeToString([]byte(Sum(s))); got != want {
			t.Errorf("%q: %s, not %s", s, got, want)
		}
	}
}

// TestSumsOfAllSizes: about the borders of one block, two, three, and far behind them.
func TestSumsOfAllSizes(t *testing.T) {
	sizes := []int{1 << 16, 1<<16 + 1, 1000*136 - 1, 1000 * 136, 1 << 20}
	for size := range 3*136 + 3 {
		sizes = append(sizes, size)
	}
	for _, size := range sizes {
		for _, s := range []string{text(size), strings.Repeat("\x00", size), strings.Repeat("\xff", size)} {
			if got, want := Sum(s), squeezed(s, 136, 0x01, 32); got != want {
				t.Errorf("%d bytes: %x, not %x", size, got, want)
			}
		}
	}
}

// TestFilled: what is put behind a text, where one byte lacks, two, or a whole block.
func TestFilled(t *testing.T) {
	if got, want := lastBlock(text(135)), text(135)+"\x81"; got != want {
		t.Errorf("135 bytes: %x", got)
	}
	if got, want := lastBlock(text(134)), text(134)+"\x01\x80"; got != want {
		t.Errorf("134 bytes: %x", got)
	}
	if got, want := lastBlock(""), "\x01"+strings.Repeat("\x00", 134)+"\x80"; got != want {
		t.Errorf("no bytes: %x", got)
	}
}

// TestFilledByHand: a text that ends as if it had been filled up already is another one, with another sum.
func TestFilledByHand(t *testing.T) {
	seen := map[string]string{}
	for _, size := range []int{0, 1, 100, 133, 134, 135, 136, 137, 271, 272} {
		s := text(size)
		for _, longer := range []string{s, s + "\x00", s + "\x01", s + "\x80", s + "\x81", s + "\x01\x00", filled(s, 136, 0x01), filled(s, 136, 0x06)} {
			sum := Sum(longer)
			if other, ok := seen[sum]; ok && other != longer {
				t.Errorf("%x and %x have one sum", other, longer)
			}
			seen[sum] = longer
		}
	}
}

// TestSumsAtOneTime: nothing is kept from sum to sum.
func TestSumsAtOneTime(t *testing.T) {
	var all sync.WaitGroup
	for size := range 64 {
		all.Go(func() {
			s := text(size * 10)
			want := squeezed(s, 136, 0x01, 32)
			for range 20 {
				if got := Sum(s); got != want {
					t.Errorf("%d bytes: %x, not %x", len(s), got, want)
				}
			}
		})
	}
	all.Wait()
}

// P3.3

func TestSumsHave32Bytes(t *testing.T) {
	for _, size := range []int{0, 1, 31, 32, 33, 135, 136, 137, 272, 1000, 1 << 17} {
		if got := len(Sum(text(size))); got != 32 {
			t.Errorf("of %d bytes: %d", size, got)
		}
	}
}

// TestOneToOne: there is a way back from each state, and to each state.
func TestOneToOne(t *testing.T) {
	for _, a := range states(100) {
		if got := back(Permute(a)); got != a {
			t.Errorf("%x: back at %x", a, got)
		}
		if got := Permute(back(a)); got != a {
			t.Errorf("%x: forth at %x", a, got)
		}
	}
}

// TestNoTwoToOne: each single bit, alone, and with the last bit turned round beside it.
func TestNoTwoToOne(t *testing.T) {
	seen := map[[25]uint64]int{}
	for bit := range 1600 {
		var a [25]uint64
		a[bit/64] = 1 << (bit % 64)
		seen[Permute(a)]++
		a[24] ^= 1 << 63
		seen[Permute(a)]++
	}
	if len(seen) != 2*1600 {
		t.Errorf("%d states, not %d", len(seen), 2*1600)
	}
}

// back undoes Permute, round by round.
func back(a [25]uint64) [25]uint64 {
	for i := 23; i >= 0; i-- {
		a[0] ^= roundConstants[i]
		a = unmixed(unmoved(unbent(a)))
	}
	return a
}

// unbent undoes the step over rows: of the 32 rows that there are each is told by what that step makes of it.
func unbent(a [25]uint64) [25]uint64 {
	var from [32]uint64
	for row := range from {
		bent := 0
		for x := range 5 {
			bit := row>>x ^ row>>((x+2)%5)&^(row>>((x+1)%5))
			bent |= bit & 1 << x
		}
		from[bent] = uint64(row)
	}
	var out [25]uint64
	for y := range 5 {
		for z := range 64 {
			row := uint64(0)
			for x := range 5 {
				row |= a[x+5*y] >> z & 1 << x
			}
			for x := range 5 {
				out[x+5*y] |= from[row] >> x & 1 << z
			}
		}
	}
	return out
}

// unmoved takes each lane back from (y, 2x + 3y) to (x, y), and turns it right.
func unmoved(b [25]uint64) [25]uint64 {
	a := [25]uint64{b[0]}
	x, y := 1, 0
	for t := range 24 {
		a[x+5*y] = bits.RotateLeft64(b[y+5*((2*x+3*y)%5)], -(t+1)*(t+2)/2)
		x, y = y, (2*x+3*y)%5
	}
	return a
}

// unmixed undoes the step over columns: done 192 times that step leaves all as it was, so 191 times more undo it.
func unmixed(a [25]uint64) [25]uint64 {
	for range 191 {
		var c [5]uint64
		for i, lane := range a {
			c[i%5] ^= lane
		}
		for i := range a {
			a[i] ^= c[(i+4)%5] ^ bits.RotateLeft64(c[(i+1)%5], 1)
		}
	}
	return a
}

func BenchmarkPermute(b *testing.B) {
	var a [25]uint64
	for b.Loop() {
		a = Permute(a)
	}
}

func BenchmarkSum(b *testing.B) {
	s := text(1 << 16)
	b.SetBytes(int64(len(s)))
	for b.Loop() {
		Sum(s)
	}
}
