package world

import (
	"fmt"
	"maps"
	"math/big"
	"slices"
	"strings"
	"testing"

	"stithy/api"
	"stithy/disk"
	"stithy/fork"
	"stithy/word"
)

// place is a slot of an address.
type place struct {
	addr string
	key  api.Word
}

// state is what is changed, in the chapter's words.
type state struct {
	accounts map[string]api.Account
	wiped    map[string]bool
	slots    map[place]api.Word
}

func (s state) copied() state {
	return state{maps.Clone(s.accounts), maps.Clone(s.wiped), maps.Clone(s.slots)}
}

// model is a world of which each change is kept as the whole state ahead of it.
type model struct {
	state
	before []state
	far    *fork.Client
}

func newModel(far *fork.Client) *model {
	return &model{state: state{map[string]api.Account{}, map[string]bool{}, map[place]api.Word{}}, far: far}
}

func (m *model) change() { m.before = append(m.before, m.copied()) }

func (m *model) account(addr string) (api.Account, api.Errno) {
	if len(addr) != 20 {
		return api.Account{}, api.ErrArg
	}
	if a, ok := m.accounts[addr]; ok {
		return a, api.OK
	}
	if m.far == nil {
		return api.Account{}, api.OK
	}
	return m.far.Account(addr)
}

func (m *model) slot(addr string, k api.Word) (api.Word, api.Errno) {
	if len(addr) != 20 {
		return api.Word{}, api.ErrArg
	}
	if v, ok := m.slots[place{addr, k}]; ok {
		return v, api.OK
	}
	if m.wiped[addr] || m.far == nil {
		return api.Word{}, api.OK
	}
	return m.far.Slot(addr, k)
}

// set is any Set of an account, of a part that may be or not.
func (m *model) set(addr string, refused api.Errno, part func(a *api.Account)) api.Errno {
	if len(addr) != 20 {
		return api.ErrArg
	}
	if refused != api.OK {
		return refused
	}
	a, e := m.account(addr)
	if e != api.OK {
		return e
	}
	m.change()
	part(&a)
	m.accounts[addr] = a
	return api.OK
}

func (m *model) setSlot(addr string, k, v api.Word) api.Errno {
	if len(addr) != 20 {
		return api.ErrArg
	}
	m.change()
	m.slots[place{addr, k}] = v
	return api.OK
}

func (m *model) delete(addr string) api.Errno {
	if len(addr) != 20 {
		return api.ErrArg
	}
	m.change()
	m.accounts[addr], m.wiped[addr] = api.Account{}, true
	maps.DeleteFunc(m.slots, func(p place, _ api.Word) bool { return p.addr == addr })
	return api.OK
}

func number(w api.Word) *big.Int { return new(big.Int).SetBytes([]byte(word.Bytes(w))) }

func wrapped(n *big.Int) api.Word {
	n = new(big.Int).Mod(n, new(big.Int).Lsh(big.NewInt(1), 256))
	w, _ := word.Of(string(n.FillBytes(make([]byte, 32))))
	return w
}

func (m *model) move(from, to string, v api.Word) api.Errno {
	if len(from) != 20 || len(to) != 20 {
		return api.ErrArg
	}
	a, e := m.account(from)
	if e != api.OK {
		return e
	}
	if number(a.Balance).Cmp(number(v)) < 0 {
		return api.ErrFunds
	}
	b, e := m.account(to)
	if e != api.OK || from == to || number(v).Sign() == 0 {
		return e
	}
	m.change()
	a.Balance = wrapped(new(big.Int).Sub(number(a.Balance), number(v)))
	m.accounts[from] = a
	m.change()
	b.Balance = wrapped(new(big.Int).Add(number(b.Balance), number(v)))
	m.accounts[to] = b
	return api.OK
}

func (m *model) back(mark int) bool {
	if mark < 0 || mark > len(m.before) {
		return false
	}
	if mark < len(m.before) {
		m.state, m.before = m.before[mark], m.before[:mark]
	}
	return true
}

// all goes through all addresses, and through all slots, again and again: slow, but plain.
func (m *model) all() (out []Entry) {
	some := map[string]bool{}
	for addr := range m.accounts {
		some[addr] = true
	}
	for addr := range m.wiped {
		some[addr] = true
	}
	for p := range m.slots {
		some[p.addr] = true
	}
	for addr := range some {
		a, changed := m.accounts[addr]
		x := Entry{Addr: addr, Changed: changed, Account: a, Wiped: m.wiped[addr]}
		for p, v := range m.slots {
			if p.addr == addr {
				x.Slots = append(x.Slots, Slot{p.key, v})
			}
		}
		slices.SortFunc(x.Slots, func(a, b Slot) int { return number(a.Key).Cmp(number(b.Key)) })
		out = append(out, x)
	}
	slices.SortFunc(out, func(a, b Entry) int { return strings.Compare(a.Addr, b.Addr) })
	return out
}

func (m *model) load(l []Entry) {
	fresh := newModel(m.far)
	for _, x := range l {
		if x.Changed {
			fresh.accounts[x.Addr] = x.Account
		}
		if x.Wiped {
			fresh.wiped[x.Addr] = true
		}
		for _, s := range x.Slots {
			fresh.slots[place{x.Addr, s.Key}] = s.Value
		}
	}
	*m = *fresh
}

// walk is a world and its model, over two clients of the same script, and what is mixed.
type walk struct {
	seed  uint64
	world *World
	model *model
	far   *fork.Client // nil, or the world's
	disks []*disk.Disk // of both clients
	dumps [][]Entry
}

func (w *walk) next(below int) int {
	w.seed ^= w.seed << 13
	w.seed ^= w.seed >> 7
	w.seed ^= w.seed << 17
	return int(w.seed >> 20 % uint64(below))
}

func (w *walk) addr() string {
	l := []string{alice, bob, carol, zero, high, alice, bob, alice, bob, alice, bob, carol, alice + "a"}
	return l[w.next(len(l))]
}

func (w *walk) number() api.Word {
	l := []api.Word{none, small(1), small(2), small(3), {C: 1}, {B: 1, D: 4}, {A: 1 << 63}, most}
	return l[w.next(len(l))]
}

func (w *walk) code() string {
	sizes := []int{0, 1, 5, 40, 5, 1, 0, api.MaxCode, api.MaxCode + 1}
	return strings.Repeat("c", sizes[w.next(len(sizes))])
}

// begin lays a world and its model over nothing, or over disks of some room.
func (w *walk) begin(t *testing.T) {
	t.Helper()
	if w.next(4) == 0 {
		w.world, w.model = New(nil), newModel(nil)
		return
	}
	size := []int{api.MaxDisk, api.MaxDisk, 2000, 400}[w.next(4)]
	far, d := client(t, size)
	twin, e := client(t, size)
	w.far, w.disks = far, []*disk.Disk{d, e}
	w.world, w.model = New(far), newModel(twin)
}

// fill puts a reply that counts for the next ask, if that is of its kind, or now and then none.
func (w *walk) fill() {
	if w.far == nil || w.far.Left() > 0 {
		return
	}
	id := uint64(len(w.far.Asked()) + 1)
	a := api.Account{Nonce: uint64(w.next(4)), Balance: w.number(), Code: strings.Repeat("f", w.next(60))}
	l := []string{account(id, a), value(id+1, w.number()), account(id+2, a)}
	l = l[:w.next(4)]
	w.far.Script(l)
	w.model.far.Script(l)
}

// step does one thing to both, and tells what both answered.
func (w *walk) step() (what string, got, want any) {
	addr, v, code, n := w.addr(), w.number(), w.code(), uint64(w.next(5))
	m, x := w.model, w.world
	pair := func(v any, e api.Errno) string { return fmt.Sprintf("%v %d", v, e) }
	switch w.next(14) {
	case 0:
		a, e := x.Account(addr)
		b, f := m.account(addr)
		return "Account", pair(a, e), pair(b, f)
	case 1, 2:
		k := w.number()
		a, e := x.Slot(addr, k)
		b, f := m.slot(addr, k)
		return "Slot", pair(a, e), pair(b, f)
	case 3:
		return "SetNonce", x.SetNonce(addr, n), m.set(addr, api.OK, func(a *api.Account) { a.Nonce = n })
	case 4:
		return "SetBalance", x.SetBalance(addr, v), m.set(addr, api.OK, func(a *api.Account) { a.Balance = v })
	case 5:
		refused := api.OK
		if len(code) > 24576 {
			refused = api.ErrLong
		}
		return "SetCode", x.SetCode(addr, code), m.set(addr, refused, func(a *api.Account) { a.Code = code })
	case 6, 7, 8:
		k := w.number()
		return "SetSlot", x.SetSlot(addr, k, v), m.setSlot(addr, k, v)
	case 9:
		return "Delete", x.Delete(addr), m.delete(addr)
	case 10, 11:
		to := w.addr()
		return "Move", x.Move(addr, to, v), m.move(addr, to, v)
	}
	return w.turn()
}

// turn goes back, or loads what was told once, or lets the disks crash.
func (w *walk) turn() (what string, got, want any) {
	m, x := w.model, w.world
	switch w.next(8) {
	case 0:
		w.dumps = append(w.dumps, x.All())
		return "All", x.All(), m.all()
	case 1:
		if len(w.dumps) == 0 {
			return "no dump", 0, 0
		}
		l := w.dumps[w.next(len(w.dumps))]
		m.load(l)
		return "Load", x.Load(l), api.OK
	case 2:
		bad := append(m.all(), Entry{Addr: zero[1:]})
		return "Load of none", x.Load(bad), api.ErrArg
	case 3:
		if w.next(20) == 0 {
			for _, d := range w.disks {
				d.Crash()
			}
		}
		return "Mark", x.Mark(), len(m.before)
	}
	mark := w.next(len(m.before)+3) - 1
	return "Back", x.Back(mark), m.back(mark)
}

// TestWalks: whatever is done, in whatever order, the world is as its model, and asks as that does.
func TestWalks(t *testing.T) {
	for seed := range uint64(300) {
		w := &walk{seed: seed*977 + 1}
		w.begin(t)
		for i := range 120 {
			w.fill()
			what, got, want := w.step()
			what = fmt.Sprintf("walk %d, step %d, %s", seed, i, what)
			if s, u := fmt.Sprint(got), fmt.Sprint(want); s != u {
				t.Fatalf("%s: %.300s, not %.300s", what, s, u)
			}
			if i%8 == 0 || i == 119 {
				shows(t, what, w.world, len(w.model.before), w.model.all()...)
			}
			if w.far != nil {
				asked(t, what, w.far, w.model.far.Asked()...)
			}
			if t.Failed() {
				return
			}
		}
		for len(w.model.before) > 0 {
			mark := w.next(len(w.model.before))
			w.model.back(mark)
			w.world.Back(mark)
			shows(t, fmt.Sprintf("walk %d, back to %d", seed, mark), w.world, mark, w.model.all()...)
		}
	}
}
