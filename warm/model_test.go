package warm

import (
	"fmt"
	"math"
	"math/big"
	"slices"
	"strings"
	"testing"

	"stithy/api"
)

// event is a call that was a change.
type event struct {
	call string
	addr string
	key  api.Word
	n    int64
	log  api.Log
}

// model is a set, in the chapter's words: just its changes, all of which are gone through at each question.
type model []event

func (m model) any(call, addr string, k api.Word) bool {
	return slices.ContainsFunc(m, func(e event) bool { return e.call == call && e.addr == addr && e.key == k })
}

// note makes a change of what was not there, and says whether it was.
func (m *model) note(call, addr string, k api.Word) bool {
	was := m.any(call, addr, k)
	if !was {
		*m = append(*m, event{call: call, addr: addr, key: k})
	}
	return was
}

func (m *model) refund(n int64) { *m = append(*m, event{call: "Refund", n: n}) }

func (m *model) log(l api.Log) {
	l.Topics = slices.Clone(l.Topics)
	*m = append(*m, event{call: "Log", log: l})
}

func (m model) total() int64 {
	sum := new(big.Int)
	for _, e := range m {
		sum.Add(sum, big.NewInt(e.n))
	}
	sum.Mod(sum, new(big.Int).Lsh(big.NewInt(1), 64))
	if sum.BitLen() == 64 {
		sum.Sub(sum, new(big.Int).Lsh(big.NewInt(1), 64))
	}
	return sum.Int64()
}

func (m model) logs() (out []api.Log) {
	for _, e := range m {
		if e.call == "Log" {
			out = append(out, e.log)
		}
	}
	return out
}

func (m model) leaving() (out []string) {
	for _, e := range m {
		if e.call == "Gone" {
			out = append(out, e.addr)
		}
	}
	slices.SortFunc(out, strings.Compare)
	return out
}

func (m *model) back(mark int) bool {
	if mark < 0 || mark > len(*m) {
		return false
	}
	*m = (*m)[:mark]
	return true
}

// someAddrs and someKeys are what the walks take.
func someAddrs() []string { return []string{alice, bob, zero, high, "", "a", alice + "a", alice[1:]} }

func someKeys() []api.Word {
	return []api.Word{none, {A: 1}, {B: 1}, {C: 1}, {D: 1}, {A: 1, D: 1}, most}
}

// same says that all that a set tells is what its model tells.
func same(t *testing.T, what string, s *Set, m model) {
	t.Helper()
	shows(t, what, s, len(m), m.total(), m.logs(), m.leaving())
	for _, addr := range someAddrs() {
		if got, want := s.HasAddr(addr), m.any("Addr", addr, none); got != want {
			t.Errorf("%s: HasAddr of %q: %v", what, addr, got)
		}
		for _, k := range someKeys() {
			if got, want := s.HasSlot(addr, k), m.any("Slot", addr, k); got != want {
				t.Errorf("%s: HasSlot of %q, %v: %v", what, addr, k, got)
			}
		}
	}
}

// walk is a set and its model, and what is mixed.
type walk struct {
	seed  uint64
	set   *Set
	model model
}

// next is a number below below, always in the same order.
func (w *walk) next(below int) int {
	w.seed ^= w.seed << 13
	w.seed ^= w.seed >> 7
	w.seed ^= w.seed << 17
	return int(w.seed >> 20 % uint64(below))
}

func (w *walk) amount() int64 {
	l := []int64{0, 1, -1, 4800, -4800, 19900, math.MaxInt64, math.MinInt64, math.MinInt64 + 1}
	return l[w.next(len(l))]
}

func (w *walk) mixedLog() api.Log {
	out := api.Log{Addr: someAddrs()[w.next(8)], Data: strings.Repeat("d", w.next(40))}
	for range w.next(6) {
		out.Topics = append(out.Topics, someKeys()[w.next(7)])
	}
	return out
}

// step does one thing to both, and tells what both answered.
func (w *walk) step() (what string, got, want bool) {
	addr, k := someAddrs()[w.next(8)], someKeys()[w.next(7)]
	switch w.next(10) {
	case 0, 1:
		return "Addr", w.set.Addr(addr), w.model.note("Addr", addr, none)
	case 2, 3, 4:
		return "Slot", w.set.Slot(addr, k), w.model.note("Slot", addr, k)
	case 5:
		return "Made", w.set.Made(addr), w.model.note("Made", addr, none)
	case 6:
		n := w.amount()
		w.set.Refund(n)
		w.model.refund(n)
		return "Refund", true, true
	case 7:
		l := w.mixedLog()
		w.set.Log(l)
		w.model.log(l)
		return "Log", true, true
	case 8:
		w.set.Gone(addr)
		w.model.note("Gone", addr, none)
		return "Gone", true, true
	}
	mark := w.next(len(w.model)+4) - 2
	return fmt.Sprint("Back to ", mark), w.set.Back(mark), w.model.back(mark)
}

// P11.1, P11.2 and P11.3 as a whole

// TestWalks: whatever is done, in whatever order, the set is as its model; and it is as it was at each mark, one behind the other.
func TestWalks(t *testing.T) {
	for seed := range uint64(400) {
		w := &walk{seed: seed*977 + 1, set: New()}
		for i := range 150 {
			what, got, want := w.step()
			what = fmt.Sprintf("walk %d, step %d, %s", seed, i, what)
			if got != want {
				t.Fatalf("%s: %v", what, got)
			}
			if same(t, what, w.set, w.model); t.Failed() {
				return
			}
		}
		for len(w.model) > 0 {
			mark := w.next(len(w.model))
			what := fmt.Sprintf("walk %d, in the end back to %d", seed, mark)
			if !w.model.back(mark) || !w.set.Back(mark) {
				t.Fatal(what)
			}
			if same(t, what, w.set, w.model); t.Failed() {
				return
			}
		}
	}
}
