package mem

import (
	"fmt"
	"math"
	"math/big"
	"strings"
	"testing"

	"stithy/api"
)

// limit is how many bytes of a memory there may be.
const limit = 1 << 24

// model is a memory, in the chapter's words: each byte by its place, and how many there are.
type model struct {
	size  int64
	bytes map[uint64]byte
}

func whole(w api.Word) *big.Int {
	out := new(big.Int)
	for _, part := range []uint64{w.A, w.B, w.C, w.D} {
		out.Lsh(out, 64).Add(out, new(big.Int).SetUint64(part))
	}
	return out
}

func number(n uint64) *big.Int { return new(big.Int).SetUint64(n) }

// far says whether at and size together are above the limit.
func far(at, size *big.Int) bool { return new(big.Int).Add(at, size).Cmp(big.NewInt(limit)) > 0 }

// rounded is at and size together, rounded up to 32: 0, if size is 0.
func rounded(at, size *big.Int) int64 {
	if size.Sign() == 0 {
		return 0
	}
	sum := new(big.Int).Add(at, size)
	for new(big.Int).Mod(sum, big.NewInt(32)).Sign() != 0 {
		sum.Add(sum, big.NewInt(1))
	}
	return sum.Int64()
}

// costs is what so many words cost.
func costs(words *big.Int) uint64 {
	if words.BitLen() > 32 {
		return 1 << 63
	}
	square := new(big.Int).Mul(words, words)
	square.Div(square, big.NewInt(512))
	return square.Add(square, new(big.Int).Mul(words, big.NewInt(3))).Uint64()
}

func (m *model) need(at, size api.Word) (uint64, bool) {
	a, n := whole(at), whole(size)
	if n.Sign() == 0 {
		return 0, true
	}
	if far(a, n) {
		return 0, false
	}
	then := max(m.size, rounded(a, n))
	return costs(big.NewInt(then/32)) - costs(big.NewInt(m.size/32)), true
}

func (m *model) grow(at, size uint64) {
	if !far(number(at), number(size)) {
		m.size = max(m.size, rounded(number(at), number(size)))
	}
}

func (m *model) read(at, size uint64) string {
	if size > limit {
		return ""
	}
	var out strings.Builder
	for i := range size {
		if i <= math.MaxUint64-at {
			out.WriteByte(m.bytes[at+i])
		} else {
			out.WriteByte(0)
		}
	}
	return out.String()
}

func (m *model) write(at, size uint64, s string) {
	if far(number(at), number(size)) {
		return
	}
	m.grow(at, size)
	for i := range size {
		m.bytes[at+i] = 0
		if i < uint64(len(s)) {
			m.bytes[at+i] = s[i]
		}
	}
}

func (m *model) load(at uint64) api.Word {
	return wordOf(new(big.Int).SetBytes([]byte(m.read(at, 32))))
}

func wordOf(n *big.Int) api.Word {
	part := func(bit uint) uint64 {
		n := new(big.Int).Rsh(n, bit)
		return n.And(n, number(math.MaxUint64)).Uint64()
	}
	return api.Word{A: part(192), B: part(128), C: part(64), D: part(0)}
}

// part is Part, byte by byte.
func part(s string, at, size api.Word) string {
	n := whole(size)
	if n.Cmp(big.NewInt(limit)) > 0 {
		return ""
	}
	var out strings.Builder
	for i := range n.Int64() {
		place := new(big.Int).Add(whole(at), big.NewInt(i))
		if place.Cmp(big.NewInt(int64(len(s)))) < 0 {
			out.WriteByte(s[place.Int64()])
		} else {
			out.WriteByte(0)
		}
	}
	return out.String()
}

// walk is a memory and its model, and what is mixed.
type walk struct {
	seed  uint64
	wide  bool
	m     *Memory
	model model
	last  uint64 // the place that was taken last
}

// next is a number below below, always in the same order.
func (w *walk) next(below uint64) uint64 {
	w.seed ^= w.seed << 13
	w.seed ^= w.seed >> 7
	w.seed ^= w.seed << 17
	return w.seed >> 20 % below
}

// place is mostly near the front, and else near where something ends, or wraps round.
func (w *walk) place() uint64 {
	n := w.next(70)
	switch w.next(12) {
	case 0:
		return math.MaxUint64 - n
	case 1:
		return 1<<32 - 35 + n
	case 2:
		return limit + 1 + n
	case 3, 4:
		if w.wide {
			return limit - n
		}
	case 5:
		return w.last + n - 35
	}
	return w.next(400)
}

// size is mostly a small one, and else one that is refused.
func (w *walk) size() uint64 {
	switch w.next(20) {
	case 0:
		return 0
	case 1:
		return math.MaxUint64 - w.next(70)
	case 2:
		return limit + 1 + w.next(70)
	}
	return w.next(100)
}

// text are so many bytes, some of them 0.
func (w *walk) text(size uint64) string {
	out := make([]byte, size)
	for i := range out {
		out[i] = byte(w.next(256) & w.next(256))
	}
	return string(out)
}

// word is mostly n, and else a greater number with the same lowest part.
func (w *walk) word(n uint64) api.Word {
	out := api.Word{D: n}
	switch w.next(12) {
	case 0:
		out.A = 1 << w.next(64)
	case 1:
		out.B = 1 << w.next(64)
	case 2:
		out.C = 1 << w.next(64)
	}
	return out
}

// change does one thing to both.
func (w *walk) change() string {
	at, size := w.place(), w.size()
	w.last = at
	switch w.next(10) {
	case 0: // seldom, as else what is there would nearly always reach as far as what is asked for
		w.m.Grow(at, size)
		w.model.grow(at, size)
		return fmt.Sprint("Grow ", at, " ", size)
	case 1, 2, 3:
		s := w.text(32)
		w.m.Store(at, wordOf(new(big.Int).SetBytes([]byte(s))))
		w.model.write(at, 32, s)
		return fmt.Sprintf("Store %d %x", at, s)
	case 4, 5, 6:
		s := w.text(1)
		w.m.Store8(at, s[0])
		w.model.write(at, 1, s)
		return fmt.Sprintf("Store8 %d %x", at, s)
	}
	s := w.text(w.next(120))
	w.m.Write(at, size, s)
	w.model.write(at, size, s)
	return fmt.Sprintf("Write %d %d %x", at, size, s)
}

// unlike says where both differ, of what is asked of them now.
func (w *walk) unlike() string {
	if got := w.m.Size(); int64(got) != w.model.size {
		return fmt.Sprintf("%d bytes, not %d", got, w.model.size)
	}
	a, n := w.word(w.place()), w.word(w.size())
	got, ok := w.m.Need(a, n)
	if want, fine := w.model.need(a, n); got != want || ok != fine {
		return fmt.Sprintf("Need %v, %v: %d, %v, not %d, %v", a, n, got, ok, want, fine)
	}
	for _, at := range []uint64{0, w.last, w.last - 33, uint64(w.model.size) - 35, w.place()} {
		size := w.size()
		if got, want := w.m.Read(at, size), w.model.read(at, size); got != want {
			return fmt.Sprintf("Read %d %d: %x, not %x", at, size, got, want)
		}
		if got, want := w.m.Load(at), w.model.load(at); got != want {
			return fmt.Sprintf("Load %d: %v, not %v", at, got, want)
		}
	}
	return ""
}

// TestAgainstModel: many mixed calls. Only in the wide ones the memory becomes as great as it may be.
func TestAgainstModel(t *testing.T) {
	for run := range uint64(220) {
		w := &walk{seed: run*0x9e3779b97f4a7c15 + 1, wide: run%20 == 0, m: New(), model: model{bytes: map[uint64]byte{}}}
		for i := range 200 {
			what := w.change()
			if bad := w.unlike(); bad != "" {
				t.Fatalf("run %d, step %d, %s: %s", run, i, what, bad)
			}
		}
		if got, want := w.m.Read(0, 700), w.model.read(0, 700); got != want {
			t.Fatalf("run %d: %x, not %x", run, got, want)
		}
	}
}

// TestPartAgainstModel: places and sizes of all kinds, in texts of some sizes.
func TestPartAgainstModel(t *testing.T) {
	for run := range uint64(3000) {
		w := &walk{seed: run*0x9e3779b97f4a7c15 + 1, wide: true}
		s := w.text(w.next(200))
		w.last = uint64(len(s))
		at, size := w.word(w.place()), w.word(w.size())
		if got, want := Part(s, at, size), part(s, at, size); got != want {
			t.Errorf("%x, %v, %v: %x, not %x", s, at, size, got, want)
		}
	}
}
