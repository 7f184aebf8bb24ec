package crc

import (
	"hash/crc32"
	"strings"
	"sync"
	"testing"

	"stithy/api"
)

// next goes through all numbers of 64 bits but 0, always in the same order.
func next(seed *uint64) uint64 {
	*seed ^= *seed << 13
	*seed ^= *seed >> 7
	*seed ^= *seed << 17
	return *seed
}

// text is so many bytes, of all kinds.
func text(size int) string {
	seed := uint64(size)*2 + 1
	out := make([]byte, size)
	for i := range out {
		out[i] = byte(next(&seed) >> 40)
	}
	return string(out)
}

// turned is s with one bit turned.
func turned(s string, bit int) string {
	out := []byte(s)
	out[bit/8] ^= 1 << (bit % 8)
	return string(out)
}

// single is the text of one byte.
func single(b int) string { return string([]byte{byte(b)}) }

// sums are of no bits, of all, of each single one, of all but one, and mixed ones.
func sums() []uint32 {
	out := []uint32{0, ^uint32(0), 0xedb88320, ^uint32(0xedb88320), 0xcbf43926}
	for bit := range 32 {
		out = append(out, 1<<bit, ^(uint32(1) << bit))
	}
	seed := uint64(0x9e3779b97f4a7c15)
	for range 64 {
		out = append(out, uint32(next(&seed)>>20))
	}
	return out
}

// shortTexts are of nothing, of all single bytes, of runes of several bytes, and of bytes that are no runes.
func shortTexts() []string {
	out := []string{"", "\x00\x00", "\x00\x00\x00\x00", "\xff\xff\xff\xff", "123456789", "é", "€", "𝄞", "\xff\x80", "a\xc3", "\xed\xa0\x80"}
	for b := range 256 {
		out = append(out, single(b))
	}
	return append(out, text(4), text(5), text(31), text(300))
}

// model is More bit by bit, in the chapter's words.
func model(sum uint32, s string) uint32 {
	sum = ^sum
	for _, b := range []byte(s) {
		for bit := range 8 {
			taken := sum&1 ^ uint32(b>>bit)&1
			sum >>= 1
			if taken == 1 {
				sum ^= 0xedb88320
			}
		}
	}
	return ^sum
}

// P5.1

func TestTable(t *testing.T) {
	table := Table()
	for b, got := range table {
		want := uint32(b)
		for range 8 {
			lowest := want & 1
			want >>= 1
			if lowest == 1 {
				want ^= 0xedb88320
			}
		}
		if got != want {
			t.Errorf("of %02x: %08x, not %08x", b, got, want)
		}
		if want != crc32.IEEETable[b] {
			t.Errorf("the library has another one of %02x: %08x", b, crc32.IEEETable[b])
		}
	}
}

func TestTableByHand(t *testing.T) {
	table := Table()
	for b, want := range map[byte]uint32{0: 0, 1: 0x77073096, 2: 0xee0e612c, 3: 0x990951ba, 127: 0xc0ba6cad, 128: 0xedb88320, 129: 0x9abfb3b6, 254: 0x5a05df1b, 255: 0x2d02ef8d} {
		if table[b] != want {
			t.Errorf("of %02x: %08x, not %08x", b, table[b], want)
		}
	}
}

// TestTableIsNew: what is done to a table that was told isn't seen in the next one, nor in sums.
func TestTableIsNew(t *testing.T) {
	first := Table()
	told := first
	for b := range first {
		first[b] ^= 0xffffffff
	}
	if Table() != told {
		t.Error("another table")
	}
	if got := Sum("123456789"); got != 0xcbf43926 {
		t.Errorf("another sum: %08x", got)
	}
}

func TestSums(t *testing.T) {
	for s, want := range map[string]uint32{
		"":                         0,
		"\x00":                     0xd202ef8d,
		"\x00\x00\x00\x00":         0x2144df1c,
		"\xff":                     0xff000000,
		"\xff\xff\xff\xff":         0xffffffff,
		"a":                        0xe8b7be43,
		"abc":                      0x352441c2,
		"123456789":                0xcbf43926,
		"message digest":           0x20159d7f,
		"é":                        0x0e048d3e,
		strings.Repeat("\x00", 32): 0x190a55ad,
		strings.Repeat("\xff", 32): 0xff6cab0b,
		"The quick brown fox jumps over the lazy dog": 0x414fa339,
	} {
		if got := Sum(s); got != want {
			t.Errorf("of %q: %08x, not %08x", s, got, want)
		}
	}
}

func TestSumsOfAllShortTexts(t *testing.T) {
	for one := range 256 {
		if s := single(one); Sum(s) != model(0, s) {
			t.Errorf("of %x", s)
		}
		for two := range 256 {
			if s := single(one) + single(two); Sum(s) != model(0, s) {
				t.Errorf("of %x", s)
			}
		}
	}
}

// TestSumsOfAllSizes: no text is too long, also where other layers take no more.
func TestSumsOfAllSizes(t *testing.T) {
	sizes := []int{api.MaxBytes - 1, api.MaxBytes, api.MaxBytes + 1, api.MaxDisk, 1<<24 + 3}
	for size := range 600 {
		sizes = append(sizes, size)
	}
	for _, size := range sizes {
		s := text(size)
		got := Sum(s)
		if want := model(0, s); got != want {
			t.Errorf("of %d bytes: %08x, not %08x", size, got, want)
		}
		if want := crc32.ChecksumIEEE([]byte(s)); got != want {
			t.Errorf("of %d bytes: %08x, and the library has %08x", size, got, want)
		}
	}
}

func TestMore(t *testing.T) {
	for _, sum := range sums() {
		for _, s := range shortTexts() {
			got := More(sum, s)
			if want := model(sum, s); got != want {
				t.Errorf("of %08x and %x: %08x, not %08x", sum, s, got, want)
			}
			if want := crc32.Update(sum, crc32.IEEETable, []byte(s)); got != want {
				t.Errorf("of %08x and %x: %08x, and the library has %08x", sum, s, got, want)
			}
		}
	}
}

func TestMoreOfNothing(t *testing.T) {
	for _, sum := range sums() {
		if got := More(sum, ""); got != sum {
			t.Errorf("of %08x: %08x", sum, got)
		}
	}
}

func TestSumIsMoreOfZero(t *testing.T) {
	for _, s := range shortTexts() {
		if Sum(s) != More(0, s) {
			t.Errorf("of %x", s)
		}
	}
}

// TestSumsAtOneTime: calls that are made at one time, or again, tell the same.
func TestSumsAtOneTime(t *testing.T) {
	var all sync.WaitGroup
	for size := range 64 {
		all.Go(func() {
			s := text(size)
			want := model(0, s)
			for range 100 {
				if Sum(s) != want || More(want, s) != model(want, s) {
					t.Errorf("of %d bytes", size)
				}
			}
		})
	}
	all.Wait()
}

// P5.2

func TestGoneOnWith(t *testing.T) {
	for _, size := range []int{0, 1, 2, 3, 4, 5, 8, 9, 255, 256, 257, 600} {
		s := text(size)
		for cut := range size + 1 {
			if More(Sum(s[:cut]), s[cut:]) != Sum(s) {
				t.Errorf("of %d bytes, cut at %d", size, cut)
			}
		}
	}
}

func TestGoneOnWithInPieces(t *testing.T) {
	s := text(5000)
	for _, start := range sums() {
		want := More(start, s)
		for _, piece := range []int{1, 2, 3, 7, 64, 4999} {
			sum := start
			for left := s; len(left) > 0; left = left[min(piece, len(left)):] {
				sum = More(More(sum, left[:min(piece, len(left))]), "")
			}
			if sum != want {
				t.Errorf("of %08x, in pieces of %d: %08x, not %08x", start, piece, sum, want)
			}
		}
	}
}

func TestOneBitTurned(t *testing.T) {
	for _, s := range shortTexts() {
		sum := Sum(s)
		for bit := range 8 * len(s) {
			if Sum(turned(s, bit)) == sum {
				t.Errorf("of %x, bit %d turned: %08x still", s, bit, sum)
			}
		}
	}
}

func TestOneBitTurnedOfLongTexts(t *testing.T) {
	s := text(api.MaxBytes)
	sum := Sum(s)
	for bit := 0; bit < 8*len(s); bit += 4093 {
		if Sum(turned(s, bit)) == sum {
			t.Errorf("bit %d turned: %08x still", bit, sum)
		}
	}
}

// TestOneBitTurnedOfSum: a sum that is gone on with is told apart from any that lacks but a bit.
func TestOneBitTurnedOfSum(t *testing.T) {
	for _, sum := range sums() {
		for _, s := range []string{"", "a", text(4), text(300)} {
			for bit := range 32 {
				if More(sum^1<<bit, s) == More(sum, s) {
					t.Errorf("of %08x, bit %d turned, and %x", sum, bit, s)
				}
			}
		}
	}
}
