package mem

import (
	"fmt"
	"math"
	"math/big"
	"strings"
	"testing"
	"unsafe"

	"stithy/api"
)

var (
	none api.Word
	most = api.Word{A: math.MaxUint64, B: math.MaxUint64, C: math.MaxUint64, D: math.MaxUint64}
)

func small(n uint64) api.Word { return api.Word{D: n} }

// zeros are so many bytes 0.
func zeros(n int) string { return strings.Repeat("\x00", n) }

// holds says what is there, all of it.
func holds(t *testing.T, what string, m *Memory, want string) {
	t.Helper()
	if got := m.Size(); got != len(want) {
		t.Errorf("%s: %d bytes, not %d", what, got, len(want))
	}
	if got := m.Read(0, uint64(len(want))); got != want {
		t.Errorf("%s: %.200x, not %.200x", what, got, want)
	}
}

// filled is a memory of 64 bytes that are not 0, and these.
func filled() (*Memory, string) {
	m, s := New(), ""
	for i := range 64 {
		s += string([]byte{byte(i + 100)})
	}
	m.Write(0, 64, s)
	return m, s
}

// P13.1

func TestCost(t *testing.T) {
	for n, want := range map[uint64]uint64{
		0: 0, 1: 3, 2: 6, 21: 63, 22: 66, 23: 70, 31: 94, 32: 98, 33: 101, 512: 1536 + 512, 724: 2172 + 1023, 725: 2175 + 1026,
		limit / 32: 1572864 + 536870912, 1<<32 - 1: 3*(1<<32-1) + (1<<55 - 1<<24),
		1 << 32: 1 << 63, 1<<32 + 1: 1 << 63, 1 << 33: 1 << 63, 1 << 36: 1 << 63, 1 << 63: 1 << 63, math.MaxUint64: 1 << 63,
	} {
		if got := Cost(n); got != want {
			t.Errorf("%d: %d, not %d", n, got, want)
		}
	}
}

// TestCostOfMany: no sum and no square wraps round.
func TestCostOfMany(t *testing.T) {
	check := func(n uint64) {
		t.Helper()
		if got, want := Cost(n), costs(number(n)); got != want {
			t.Errorf("%d: %d, not %d", n, got, want)
		}
	}
	for n := range uint64(3000) {
		check(n)
	}
	for i := range 64 {
		for d := range uint64(7) {
			check(1<<i + d - 3)
			check(3<<i + d - 3)
		}
	}
}

func TestNew(t *testing.T) {
	m := New()
	holds(t, "new", m, "")
	if m.Load(0) != none || m.Load(32) != none || m.Read(0, 3) != zeros(3) || m.Read(7, 1) != "\x00" || m.Read(0, 0) != "" {
		t.Error("it has something")
	}
	holds(t, "asked", m, "")
}

func TestNeed(t *testing.T) {
	m := New()
	for _, x := range []struct {
		there    uint64 // how many bytes
		at, size uint64
		want     uint64
		ok       bool
	}{
		{0, 0, 0, 0, true}, {0, 5, 0, 0, true}, {0, limit, 0, 0, true}, {0, limit + 1, 0, 0, true}, {0, math.MaxUint64, 0, 0, true},
		{0, 0, 1, 3, true}, {0, 0, 31, 3, true}, {0, 0, 32, 3, true}, {0, 0, 33, 6, true}, {0, 31, 1, 3, true}, {0, 31, 2, 6, true}, {0, 32, 1, 6, true},
		{0, 1, 31, 3, true}, {0, 1, 32, 6, true}, {0, 1000, 24, 98, true}, {0, 1000, 25, 101, true},
		{0, 0, limit, 538443776, true}, {0, limit - 1, 1, 538443776, true}, {0, 1, limit - 1, 538443776, true}, {0, limit - 32, 32, 538443776, true},
		{0, 0, limit - 32, 538441725, true}, {0, 0, limit - 31, 538443776, true},
		{0, 0, limit + 1, 0, false}, {0, 1, limit, 0, false}, {0, limit, 1, 0, false}, {0, limit - 31, 32, 0, false}, {0, limit + 1, 1, 0, false},
		{0, limit + 1, limit + 1, 0, false}, {0, math.MaxUint64, 1, 0, false}, {0, math.MaxUint64, 2, 0, false}, {0, 1, math.MaxUint64, 0, false},
		{0, 2, math.MaxUint64, 0, false}, {0, math.MaxUint64, math.MaxUint64, 0, false}, {0, 33, math.MaxUint64 - 31, 0, false}, {0, 1 << 63, 1 << 63, 0, false},
		{64, 0, 0, 0, true}, {64, 1000, 0, 0, true}, {64, 0, 1, 0, true}, {64, 0, 64, 0, true}, {64, 63, 1, 0, true}, {64, 63, 2, 3, true}, {64, 64, 1, 3, true},
		{64, 0, 32, 0, true}, {64, 1000, 24, 92, true}, {64, limit, 1, 0, false}, {64, math.MaxUint64, 2, 0, false},
		{704, 0, 704, 0, true}, {704, 704, 1, 4, true}, {704, 704, 33, 7, true}, {704, 700, 324, 32, true}, {704, 0, limit, 538443776 - 66, true},
		{limit, 0, limit, 0, true}, {limit, limit - 1, 1, 0, true}, {limit, limit, 0, 0, true}, {limit, limit, 1, 0, false}, {limit, 0, limit + 1, 0, false},
	} {
		m.Grow(0, x.there)
		got, ok := m.Need(small(x.at), small(x.size))
		if got != x.want || ok != x.ok {
			t.Errorf("%d there, %d %d: %d, %v, not %d, %v", x.there, x.at, x.size, got, ok, x.want, x.ok)
		}
		if m.Size() != int(x.there) {
			t.Errorf("%d there, %d %d: %d bytes now", x.there, x.at, x.size, m.Size())
		}
	}
}

// TestNeedOfWords: none of a number's parts is left out.
func TestNeedOfWords(t *testing.T) {
	m := New()
	for i := range 192 {
		great := wordOf(new(big.Int).Lsh(big.NewInt(1), uint(64+i)))
		for _, x := range []api.Word{none, small(1), small(limit), small(math.MaxUint64), great, most} {
			more := great
			more.D = x.D
			got, ok := m.Need(more, x)
			if got != 0 || ok != (x == none) {
				t.Errorf("%v, %v: %d, %v", more, x, got, ok)
			}
			if got, ok := m.Need(x, more); got != 0 || ok {
				t.Errorf("%v, %v: %d, %v", x, more, got, ok)
			}
		}
	}
	holds(t, "asked", m, "")
}

// TestNeedInSteps: what is paid step by step is what it costs in all.
func TestNeedInSteps(t *testing.T) {
	for _, step := range []uint64{1, 7, 31, 32, 33, 100, 1000} {
		m, paid := New(), uint64(0)
		for at := uint64(0); at < 40000; at += step {
			need, ok := m.Need(small(at), small(step))
			if !ok {
				t.Fatal("refused")
			}
			paid += need
			m.Grow(at, step)
			if again, ok := m.Need(small(at), small(step)); again != 0 || !ok {
				t.Errorf("paid already: %d, %v", again, ok)
			}
			if want := Cost(uint64(m.Size() / 32)); paid != want {
				t.Fatalf("steps of %d, up to %d: %d, not %d", step, at+step, paid, want)
			}
		}
	}
}

func TestGrow(t *testing.T) {
	for _, x := range []struct {
		at, size uint64
		want     int
	}{
		{0, 0, 64}, {100, 0, 64}, {limit, 0, 64}, {limit + 1, 0, 64}, {math.MaxUint64, 0, 64},
		{0, 1, 64}, {0, 32, 64}, {0, 63, 64}, {0, 64, 64}, {63, 1, 64}, {0, 65, 96}, {63, 2, 96}, {64, 1, 96}, {95, 1, 96}, {64, 32, 96}, {95, 2, 128},
		{96, 1, 128}, {1000, 24, 1024}, {1000, 25, 1056}, {5000, 1, 5024},
		{limit - 32, 1, limit}, {limit - 33, 1, limit - 32}, {limit - 1, 1, limit}, {0, limit, limit}, {1, limit - 1, limit}, {0, limit - 31, limit}, {0, limit - 32, limit - 32},
		{limit, 1, 64}, {limit - 1, 2, 64}, {1, limit, 64}, {0, limit + 1, 64}, {limit + 1, 1, 64}, {limit + 1, limit + 1, 64}, {1 << 32, 1, 64}, {0, 1 << 32, 64},
		{math.MaxUint64, 1, 64}, {math.MaxUint64, 2, 64}, {math.MaxUint64, 97, 64}, {1, math.MaxUint64, 64}, {97, math.MaxUint64, 64}, {1 << 63, 1 << 63, 64},
		{math.MaxUint64, math.MaxUint64, 64}, {math.MaxUint64 - 31, 132, 64}, {200, math.MaxUint64 - 99, 64},
	} {
		m, s := filled()
		m.Grow(x.at, x.size)
		holds(t, fmt.Sprint(x.at, " ", x.size), m, s+zeros(x.want-64))
	}
}

// TestGrowAgain: no byte is less there for what is asked later, and each new one is 0.
func TestGrowAgain(t *testing.T) {
	m, want := New(), ""
	for i := range 3000 {
		size := 32 * (i * 37 % 1500)
		m.Grow(uint64(size/2), uint64(size-size/2))
		want += zeros(max(size-len(want), 0))
		if m.Size() != len(want) {
			t.Fatalf("%d bytes, not %d", m.Size(), len(want))
		}
	}
	holds(t, "grown", m, want)
}

// TestGrowWordByWord: up to as many as may be, and not slowly so.
func TestGrowWordByWord(t *testing.T) {
	m := New()
	for at := uint64(0); at < limit; at += 32 {
		m.Store(at, small(at))
		if m.Size() != int(at)+32 {
			t.Fatalf("%d bytes, not %d", m.Size(), at+32)
		}
	}
	for at := uint64(0); at < limit; at += 32 {
		if m.Load(at) != small(at) {
			t.Fatalf("at %d: %v", at, m.Load(at))
		}
	}
}

// P13.2

func TestLoad(t *testing.T) {
	m, s := filled()
	m.Grow(64, 1)
	s += zeros(32)
	for at := range 100 {
		want := (s + zeros(64))[at : at+32]
		if got := m.Load(uint64(at)); got != wordOf(new(big.Int).SetBytes([]byte(want))) {
			t.Errorf("%d: %v, not %x", at, got, want)
		}
	}
	if got := m.Load(8); got != (api.Word{A: 0x6c6d6e6f70717273, B: 0x7475767778797a7b, C: 0x7c7d7e7f80818283, D: 0x8485868788898a8b}) {
		t.Errorf("%x", got)
	}
	holds(t, "asked", m, s)
}

// TestLoadFar: what is not there is 0, and is not there behind that either; no place wraps round to the front.
func TestLoadFar(t *testing.T) {
	m, s := filled()
	for _, at := range []uint64{64, 65, 96, 1000, limit - 32, limit - 1, limit, limit + 1, 1 << 32, 1<<32 + 1, 1 << 63, math.MaxUint64 - 32, math.MaxUint64 - 31, math.MaxUint64 - 30, math.MaxUint64 - 1, math.MaxUint64} {
		if got := m.Load(at); got != none {
			t.Errorf("%d: %v", at, got)
		}
	}
	holds(t, "asked", m, s)
	if m.Load(63) != (api.Word{A: 163 << 56}) || m.Load(33) != wordOf(new(big.Int).SetBytes([]byte(s[33:]+"\x00"))) {
		t.Error("what is half there", m.Load(63), m.Load(33))
	}
	m.Grow(limit-1, 1)
	m.Store8(limit-1, 5)
	if m.Load(limit-1) != (api.Word{A: 5 << 56}) || m.Load(limit) != none || m.Load(limit-32) != small(5) {
		t.Error("at the end", m.Load(limit-1), m.Load(limit), m.Load(limit-32))
	}
}

func TestStore(t *testing.T) {
	w := api.Word{A: 0x0102030405060708, B: 0x090a0b0c0d0e0f10, C: 0x1112131415161718, D: 0x191a1b1c1d1e1f20}
	bytes := ""
	for i := range 32 {
		bytes += string([]byte{byte(i + 1)})
	}
	for _, at := range []int{0, 1, 31, 32, 33, 63, 64, 65, 95, 96, 97, 1000, limit - 33, limit - 32} {
		m, s := filled()
		m.Store(uint64(at), w)
		all := (at + 32 + 31) / 32 * 32
		s += zeros(max(all-64, 0))
		holds(t, fmt.Sprint(at), m, s[:at]+bytes+s[at+32:])
		if m.Load(uint64(at)) != w {
			t.Errorf("%d: %v", at, m.Load(uint64(at)))
		}
	}
}

func TestStore8(t *testing.T) {
	for _, b := range []byte{0, 1, 0x7f, 0x80, 0xc3, 0xff} {
		for _, at := range []int{0, 1, 31, 32, 63, 64, 95, 96, 1000, limit - 2, limit - 1} {
			m, s := filled()
			m.Store8(uint64(at), b)
			s += zeros(max((at+32)/32*32-64, 0))
			holds(t, fmt.Sprintf("%d: %02x", at, b), m, s[:at]+string([]byte{b})+s[at+1:])
		}
	}
}

// TestTooFar: nothing is done where it would end above the limit, not even of what would be within.
func TestTooFar(t *testing.T) {
	m, s := filled()
	for _, at := range []uint64{limit, limit + 1, limit + 32, 1 << 32, 1<<32 + 5, 1 << 63, math.MaxUint64 - 63, math.MaxUint64 - 32, math.MaxUint64 - 31, math.MaxUint64 - 30, math.MaxUint64 - 1, math.MaxUint64} {
		m.Store(at, most)
		m.Store8(at, 0xff)
		for _, size := range []uint64{1, 2, 32, 33, 64, 100, limit, limit + 1, 1 << 32, -at, 64 - at, -at - 1, math.MaxUint64} {
			if size > 0 {
				m.Write(at, size, "abc")
			}
		}
		holds(t, fmt.Sprint(at), m, s)
	}
	for _, at := range []uint64{limit - 31, limit - 30, limit - 1} {
		m.Store(at, most)
		m.Write(at, limit-at+1, "abc")
		holds(t, fmt.Sprint(at), m, s)
	}
	for _, size := range []uint64{limit + 1, limit + 2, 1 << 32, 1<<32 + 1, 1 << 63, math.MaxUint64 - 31, math.MaxUint64} {
		for _, at := range []uint64{0, 1, 31, 32, 64, 1000, limit - 1, limit} {
			m.Write(at, size, "abc")
			holds(t, fmt.Sprint(at, " ", size), m, s)
		}
	}
	m.Write(1, limit, "abc")
	holds(t, "one too far", m, s)
}

func TestRead(t *testing.T) {
	m, s := filled()
	s += zeros(200)
	for at := range 130 {
		for size := range 70 {
			if got := m.Read(uint64(at), uint64(size)); got != s[at:at+size] {
				t.Errorf("%d %d: %x, not %x", at, size, got, s[at:at+size])
			}
		}
	}
	holds(t, "asked", m, s[:64])
}

func TestReadFar(t *testing.T) {
	m, s := filled()
	for _, at := range []uint64{64, 65, 96, limit - 1, limit, limit + 1, 1 << 32, 1 << 63, math.MaxUint64 - 32, math.MaxUint64 - 1, math.MaxUint64} {
		for _, size := range []int{0, 1, 2, 31, 32, 33, 100} {
			if got := m.Read(at, uint64(size)); got != zeros(size) {
				t.Errorf("%d %d: %x", at, size, got)
			}
		}
		for _, size := range []uint64{limit + 1, limit + 2, 1 << 32, 1<<32 + 1, 1 << 63, -at, 64 - at, math.MaxUint64 - 31, math.MaxUint64} {
			if got := m.Read(at, size); size > limit && got != "" {
				t.Errorf("%d %d: %d bytes", at, size, len(got))
			}
		}
	}
	for _, at := range []int{0, 1, 63, 64, limit, math.MaxInt64} {
		front := s[min(at, 64):]
		if got := m.Read(uint64(at), limit); len(got) != limit || !strings.HasPrefix(got, front) || strings.Trim(got[len(front):], "\x00") != "" {
			t.Errorf("%d, all: %d bytes, %.70x", at, len(got), got)
		}
		for _, size := range []uint64{limit + 1, 1 << 32, math.MaxUint64} {
			if got := m.Read(uint64(at), size); got != "" {
				t.Errorf("%d %d: %d bytes", at, size, len(got))
			}
		}
	}
	holds(t, "asked", m, s)
}

func TestWrite(t *testing.T) {
	for _, text := range []string{"", "a", "\x00", "abc", "a\x00c", strings.Repeat("xyz", 11), strings.Repeat("\xff", 100)} {
		for _, at := range []int{0, 1, 30, 31, 32, 33, 62, 63, 64, 65, 96, 1000} {
			for _, size := range []int{0, 1, 2, 3, 4, 31, 32, 33, 34, 64, 99, 100, 101, 200} {
				m, s := filled()
				m.Write(uint64(at), uint64(size), text)
				what := fmt.Sprintf("%d %d %.20q", at, size, text)
				if size == 0 {
					holds(t, what, m, s)
					continue
				}
				s += zeros(max((at+size+31)/32*32-64, 0))
				holds(t, what, m, s[:at]+(text + zeros(200))[:size]+s[at+size:])
			}
		}
	}
}

// TestWriteNothing: no place is too far for it, and it lets nothing be there.
func TestWriteNothing(t *testing.T) {
	m, s := filled()
	for _, at := range []uint64{0, 1, 63, 64, 65, 1000, limit - 1, limit, limit + 1, 1 << 32, 1 << 63, math.MaxUint64} {
		m.Write(at, 0, "abc")
		m.Write(at, 0, "")
		holds(t, fmt.Sprint(at), m, s)
	}
}

// TestWriteAll: as much as there may be.
func TestWriteAll(t *testing.T) {
	long := strings.Repeat("0123456789abcdef", limit/16)
	for what, s := range map[string]string{"just": long, "longer": long + "more", "shorter": long[:limit-3], "none": ""} {
		m, _ := filled()
		m.Write(0, limit, s)
		holds(t, what, m, (s + zeros(limit))[:limit])
	}
	m, s := filled()
	m.Write(60, limit-60, long)
	holds(t, "behind some", m, s[:60]+long[:limit-60])
	m, s = filled()
	m.Write(limit-2, 2, "abc")
	holds(t, "at the end", m, s+zeros(limit-66)+"ab")
}

// P13.3

func TestPart(t *testing.T) {
	for _, s := range []string{"", "a", "abc", strings.Repeat("\xff\x00\x80", 15)} {
		for at := range 60 {
			for size := range 60 {
				want := (s + zeros(130))[at : at+size]
				if got := Part(s, small(uint64(at)), small(uint64(size))); got != want {
					t.Errorf("%x, %d %d: %x, not %x", s, at, size, got, want)
				}
			}
		}
	}
}

// TestPartFar: no part of a place is left out, and none wraps round to the front.
func TestPartFar(t *testing.T) {
	var places []api.Word
	for i := range 256 {
		bit := new(big.Int).Lsh(big.NewInt(1), uint(i))
		if i > 1 {
			places = append(places, wordOf(bit))
		}
		below := new(big.Int).Sub(new(big.Int).Lsh(big.NewInt(1), 256), bit)
		if i < 252 {
			places = append(places, wordOf(below))
		}
		if i > 63 {
			more := wordOf(bit)
			more.D = 1
			places = append(places, more)
		}
	}
	for _, at := range append(places, small(3), small(math.MaxUint64), most) {
		for _, size := range []int{0, 1, 2, 3, 32, 100} {
			if got := Part("abc", at, small(uint64(size))); got != zeros(size) {
				t.Errorf("%v, %d: %x", at, size, got)
			}
		}
		if got := Part("abc", at, small(limit+1)); got != "" {
			t.Errorf("%v: %d bytes", at, len(got))
		}
	}
}

func TestPartSizes(t *testing.T) {
	long := strings.Repeat("0123456789abcdef", limit/16) + "more"
	for _, x := range []struct {
		at   uint64
		want string
	}{{0, long[:limit]}, {4, long[4:]}, {5, long[5:] + "\x00"}, {limit, "more" + zeros(limit-4)}, {limit + 4, zeros(limit)}, {math.MaxUint64, zeros(limit)}} {
		if got := Part(long, small(x.at), small(limit)); got != x.want {
			t.Errorf("%d, all: %d bytes, %.20q", x.at, len(got), got)
		}
	}
	if got := Part(long, small(limit+1), small(7)); got != "ore\x00\x00\x00\x00" {
		t.Errorf("%q", got)
	}
	sizes := []api.Word{small(limit + 1), small(limit + 2), small(1 << 32), small(1<<32 + 1), small(1 << 63), small(math.MaxUint64), most}
	for i := range 192 {
		great := wordOf(new(big.Int).Lsh(big.NewInt(1), uint(64+i)))
		sizes = append(sizes, great, api.Word{A: great.A, B: great.B, C: great.C, D: 3})
	}
	for _, size := range sizes {
		for _, at := range []api.Word{none, small(1), small(limit), most} {
			if got := Part(long, at, size); got != "" {
				t.Errorf("%v, %v: %d bytes", at, size, len(got))
			}
		}
	}
}

// P13.4

// TestStoredIsLoaded: what was stored last is loaded, however it is stored and read.
func TestStoredIsLoaded(t *testing.T) {
	words := []api.Word{none, small(1), most, {A: 1}, {B: 1}, {C: 1}, {A: 1 << 63}, {A: 1, B: 2, C: 3, D: 4}}
	m := New()
	for at := range uint64(200) {
		for _, w := range words {
			m.Store(at, w)
			s := string(whole(w).FillBytes(make([]byte, 32)))
			if m.Load(at) != w || m.Read(at, 32) != s {
				t.Errorf("%d: %v, %x, not %v", at, m.Load(at), m.Read(at, 32), w)
			}
			m.Store(at, most)
			m.Write(at, 32, s)
			if m.Load(at) != w {
				t.Errorf("%d: %v, not %v", at, m.Load(at), w)
			}
			m.Store(at, none)
			for i := range s {
				m.Store8(at+uint64(i), s[i])
			}
			if m.Load(at) != w {
				t.Errorf("%d, byte by byte: %v, not %v", at, m.Load(at), w)
			}
		}
	}
}

// P1, P3, P4

// TestApart: two memories share nothing.
func TestApart(t *testing.T) {
	a, s := filled()
	b, _ := filled()
	a.Store(0, none)
	b.Grow(64, 1)
	b.Store8(1, 7)
	holds(t, "one", a, zeros(32)+s[32:])
	holds(t, "other", b, s[:1]+"\x07"+s[2:]+zeros(32))
}

// TestToldIsNew: what was told stays as it was told, whatever is written behind that.
func TestToldIsNew(t *testing.T) {
	m, s := filled()
	all, piece := m.Read(0, 64), m.Read(30, 5)
	m.Write(0, 64, "")
	if all != s || piece != s[30:35] {
		t.Errorf("%x, %x", all, piece)
	}
	holds(t, "written", m, zeros(64))
}

// TestPartIsNew: else all that it was cut from would be kept with it.
func TestPartIsNew(t *testing.T) {
	all := strings.Repeat("abcdefgh", 100)
	for _, x := range [][2]uint64{{0, 800}, {0, 1}, {799, 1}, {10, 500}, {400, 400}} {
		s := Part(all, small(x[0]), small(x[1]))
		from, place := uintptr(unsafe.Pointer(unsafe.StringData(all))), uintptr(unsafe.Pointer(unsafe.StringData(s)))
		if place >= from && place < from+uintptr(len(all)) {
			t.Errorf("%d %d: it is a piece of what was handed in", x[0], x[1])
		}
	}
}

// TestHandedInIsNotKept: a text whose bytes are changed behind the call.
func TestHandedInIsNotKept(t *testing.T) {
	bytes := []byte("abcdefghijklmnopqrstuvwxyz012345")
	m := New()
	m.Write(0, 32, unsafe.String(&bytes[0], len(bytes)))
	clear(bytes)
	holds(t, "written", m, "abcdefghijklmnopqrstuvwxyz012345")
	m.Store(0, most)
	m.Write(32, 3, "xyz")
	if string(bytes) != zeros(32) {
		t.Errorf("%x", bytes)
	}
}
