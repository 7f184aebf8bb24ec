package world

import (
	"fmt"
	"math"
	"reflect"
	"slices"
	"strings"
	"testing"
	"unsafe"

	"stithy/api"
	"stithy/disk"
	"stithy/fork"
	"stithy/wire"
)

const (
	alice = "aaaaaaaaaaaaaaaaaaaa"
	bob   = "bbbbbbbbbbbbbbbbbbbb"
	carol = "cccccccccccccccccccc"
	zero  = "\x00\x00\x00\x00\x00\x00\x00\x00\x00\x00\x00\x00\x00\x00\x00\x00\x00\x00\x00\x00"
	high  = "\xff\xff\xff\xff\xff\xff\xff\xff\xff\xff\xff\xff\xff\xff\xff\xff\xff\xff\xff\xff"
)

var (
	nothing api.Account
	none    api.Word
	most    = api.Word{A: math.MaxUint64, B: math.MaxUint64, C: math.MaxUint64, D: math.MaxUint64}
	rich    = api.Account{Nonce: 3, Balance: api.Word{A: 1, D: 9}, Code: "code"}
)

func small(n uint64) api.Word { return api.Word{D: n} }

// wrongAddrs are texts that are no addresses, though some are nearly.
func wrongAddrs() []string {
	return []string{"", "x", alice[1:], alice + "a", alice + bob, strings.Repeat("a", 70000)}
}

// account and value are replies to the ask with that number.
func account(id uint64, a api.Account) string {
	return sure(wire.PutReply(1, wire.Reply{ID: id, Account: a}))
}

func value(id uint64, v api.Word) string { return sure(wire.PutReply(2, wire.Reply{ID: id, Value: v})) }

// ofWhom and ofWhat are the asks' bytes.
func ofWhom(id uint64, addr string) string {
	return sure(wire.PutAsk(wire.Ask{ID: id, Addr: addr, Kind: 1}))
}

func ofWhat(id uint64, addr string, k api.Word) string {
	return sure(wire.PutAsk(wire.Ask{ID: id, Addr: addr, Kind: 2, Slot: k}))
}

func sure(s string, ok bool) string {
	if !ok {
		panic("not put")
	}
	return s
}

// client is a client that knows nothing, of such a script.
func client(t *testing.T, size int, replies ...string) (*fork.Client, *disk.Disk) {
	t.Helper()
	d, e := disk.New(size)
	if e != api.OK {
		t.Fatal(e)
	}
	c := fork.New(d, "cache")
	c.Script(replies)
	return c, d
}

// over is a world over a client of such a script.
func over(t *testing.T, replies ...string) (*World, *fork.Client) {
	t.Helper()
	c, _ := client(t, api.MaxDisk, replies...)
	return New(c), c
}

// done says that each call had no error.
func done(t *testing.T, what string, l ...api.Errno) {
	t.Helper()
	for i, e := range l {
		if e != api.OK {
			t.Errorf("%s: call %d: %d", what, i, e)
		}
	}
}

// tells and values say what a world tells.
func tells(t *testing.T, what string, w *World, addr string, want api.Account, e api.Errno) {
	t.Helper()
	if got, is := w.Account(addr); got != want || is != e {
		t.Errorf("%s: %.200q: %v, %d, not %v, %d", what, addr, got, is, want, e)
	}
}

func values(t *testing.T, what string, w *World, addr string, k, want api.Word, e api.Errno) {
	t.Helper()
	if got, is := w.Slot(addr, k); got != want || is != e {
		t.Errorf("%s: %.200q, %v: %v, %d, not %v, %d", what, addr, k, got, is, want, e)
	}
}

// shows says what All tells, and Mark.
func shows(t *testing.T, what string, w *World, mark int, want ...Entry) {
	t.Helper()
	if got := w.Mark(); got != mark {
		t.Errorf("%s: %d changes, not %d", what, got, mark)
	}
	if got := w.All(); !alike(got, want) {
		t.Errorf("%s: %.500v, not %.500v", what, fmt.Sprint(got), fmt.Sprint(want))
	}
}

// alike holds lists against each other: one of nothing may be nil or empty.
func alike(a, b []Entry) bool {
	return slices.EqualFunc(a, b, func(x, y Entry) bool {
		same := slices.Equal(x.Slots, y.Slots)
		x.Slots, y.Slots = nil, nil
		return same && reflect.DeepEqual(x, y)
	})
}

// asked says what a client was asked, in order.
func asked(t *testing.T, what string, c *fork.Client, want ...string) {
	t.Helper()
	if got := c.Asked(); !slices.Equal(got, want) {
		t.Errorf("%s: asked %q, not %q", what, got, want)
	}
}

// P10.1

func TestNewOverNothing(t *testing.T) {
	w := New(nil)
	shows(t, "new", w, 0)
	for _, addr := range []string{alice, zero, high, "\x00123456789012345678\xff"} {
		tells(t, "new", w, addr, nothing, api.OK)
		for _, k := range []api.Word{none, small(1), most} {
			values(t, "new", w, addr, k, none, api.OK)
		}
	}
	shows(t, "asked", w, 0)
}

func TestNewOverClient(t *testing.T) {
	w, c := over(t, account(1, rich), value(2, small(7)), account(3, nothing))
	asked(t, "new", c)
	tells(t, "afar", w, alice, rich, api.OK)
	values(t, "afar", w, alice, small(5), small(7), api.OK)
	tells(t, "afar", w, bob, nothing, api.OK)
	tells(t, "again", w, alice, rich, api.OK)
	values(t, "again", w, alice, small(5), small(7), api.OK)
	tells(t, "again", w, bob, nothing, api.OK)
	asked(t, "once", c, ofWhom(1, alice), ofWhat(2, alice, small(5)), ofWhom(3, bob))
	shows(t, "what was asked is no change", w, 0)
}

func TestClientsErrors(t *testing.T) {
	w, c := over(t)
	tells(t, "no replies", w, alice, nothing, api.ErrRemote)
	values(t, "no replies", w, alice, none, none, api.ErrRemote)
	if len(c.Asked()) != 2*api.MaxTries {
		t.Error(len(c.Asked()))
	}
	c, _ = client(t, 1, account(1, rich), value(2, small(1)))
	w = New(c)
	tells(t, "no room", w, alice, nothing, api.ErrFull)
	values(t, "no room", w, alice, none, none, api.ErrFull)
	c, d := client(t, 1000, account(1, rich), value(2, small(1)), account(3, rich))
	d.Crash()
	w = New(c)
	tells(t, "crashed", w, alice, nothing, api.ErrCrash)
	values(t, "crashed", w, alice, none, none, api.ErrCrash)
	if e := w.SetNonce(alice, 1); e != api.ErrCrash {
		t.Error(e)
	}
	shows(t, "no change", w, 0)
}

// calls are all that have an address, beside Account and Slot.
func calls() map[string]func(w *World, addr string) api.Errno {
	return map[string]func(w *World, addr string) api.Errno{
		"SetNonce":   func(w *World, addr string) api.Errno { return w.SetNonce(addr, 0) },
		"SetBalance": func(w *World, addr string) api.Errno { return w.SetBalance(addr, small(1)) },
		"SetCode":    func(w *World, addr string) api.Errno { return w.SetCode(addr, "c") },
		"too long":   func(w *World, addr string) api.Errno { return w.SetCode(addr, strings.Repeat("c", api.MaxCode+1)) },
		"SetSlot":    func(w *World, addr string) api.Errno { return w.SetSlot(addr, none, small(1)) },
		"Delete":     (*World).Delete,
		"from":       func(w *World, addr string) api.Errno { return w.Move(addr, alice, none) },
		"from, all":  func(w *World, addr string) api.Errno { return w.Move(addr, alice, most) },
		"to":         func(w *World, addr string) api.Errno { return w.Move(alice, addr, none) },
		"to, all":    func(w *World, addr string) api.Errno { return w.Move(alice, addr, most) },
		"both":       func(w *World, addr string) api.Errno { return w.Move(addr, addr, none) },
	}
}

func TestWrongAddrs(t *testing.T) {
	w, c := over(t, account(1, rich))
	for _, addr := range wrongAddrs() {
		tells(t, "wrong", w, addr, nothing, api.ErrArg)
		values(t, "wrong", w, addr, none, none, api.ErrArg)
		for name, call := range calls() {
			if e := call(w, addr); e != api.ErrArg {
				t.Errorf("%s of %.50q: %d", name, addr, e)
			}
		}
	}
	shows(t, "wrong", w, 0)
	asked(t, "wrong", c)
}

// TestErrorsFromAfar: what has to be asked, and isn't told, leaves all as it is.
func TestErrorsFromAfar(t *testing.T) {
	for name, call := range calls() {
		w, c := over(t)
		done(t, name, w.SetSlot(bob, none, none))
		want, tries := api.ErrRemote, api.MaxTries
		switch name {
		case "SetSlot", "Delete":
			want, tries = api.OK, 0
		case "too long":
			want, tries = api.ErrLong, 0
		}
		if e := call(w, alice); e != want || len(c.Asked()) != tries {
			t.Errorf("%s: %d, %d asked", name, e, len(c.Asked()))
		}
		if want != api.OK {
			shows(t, name, w, 1, Entry{Addr: bob, Slots: []Slot{{}}})
		}
	}
}

// TestSetAccount: each call changes its own part, and asks for the others, once.
func TestSetAccount(t *testing.T) {
	w, c := over(t, account(1, rich), account(2, rich), account(3, rich), account(4, rich))
	ted := alice[:10] + bob[:10]
	done(t, "set", w.SetNonce(alice, math.MaxUint64), w.SetBalance(bob, most), w.SetCode(carol, ""), w.SetNonce(ted, 1), w.SetBalance(ted, small(2)), w.SetCode(ted, "new"))
	asked(t, "set", c, ofWhom(1, alice), ofWhom(2, bob), ofWhom(3, carol), ofWhom(4, ted))
	entry := func(addr string, a api.Account) Entry { return Entry{Addr: addr, Changed: true, Account: a} }
	want := []Entry{
		entry(alice, api.Account{Nonce: math.MaxUint64, Balance: rich.Balance, Code: rich.Code}),
		entry(ted, api.Account{Nonce: 1, Balance: small(2), Code: "new"}),
		entry(bob, api.Account{Nonce: rich.Nonce, Balance: most, Code: rich.Code}),
		entry(carol, api.Account{Nonce: rich.Nonce, Balance: rich.Balance}),
	}
	shows(t, "set", w, 6, want...)
	for _, x := range want {
		tells(t, "set", w, x.Addr, x.Account, api.OK)
	}
	if c.Left() != 0 || len(c.Asked()) != 4 {
		t.Error("asked again")
	}
}

// TestSetToTheSame: that is a change too.
func TestSetToTheSame(t *testing.T) {
	w := New(nil)
	done(t, "set", w.SetNonce(alice, 0), w.SetBalance(bob, none), w.SetCode(carol, ""), w.SetSlot(zero, most, none))
	shows(t, "set", w, 4, Entry{Addr: zero, Slots: []Slot{{Key: most}}}, Entry{Addr: alice, Changed: true}, Entry{Addr: bob, Changed: true}, Entry{Addr: carol, Changed: true})
	done(t, "again", w.SetNonce(alice, 0), w.SetSlot(zero, most, none))
	if w.Mark() != 6 || len(w.All()) != 4 {
		t.Error(w.Mark(), w.All())
	}
}

func TestSetCodeSizes(t *testing.T) {
	w, c := over(t, account(1, rich))
	for _, size := range []int{api.MaxCode + 1, api.MaxCode + 2, api.MaxBytes, 1 << 20} {
		if e := w.SetCode(alice, strings.Repeat("c", size)); e != api.ErrLong {
			t.Error(size, e)
		}
	}
	asked(t, "too long", c)
	shows(t, "too long", w, 0)
	for _, size := range []int{0, 1, 100, api.MaxCode - 1, api.MaxCode} {
		code := strings.Repeat("c", size)
		done(t, "code", w.SetCode(alice, code))
		tells(t, "code", w, alice, api.Account{Nonce: rich.Nonce, Balance: rich.Balance, Code: code}, api.OK)
	}
}

// TestSetSlot: nothing is asked, and the account stays as it is afar.
func TestSetSlot(t *testing.T) {
	w, c := over(t, value(1, small(8)), account(2, rich))
	done(t, "set", w.SetSlot(alice, small(1), most), w.SetSlot(alice, none, small(2)), w.SetSlot(alice, small(1), small(3)))
	values(t, "set", w, alice, small(1), small(3), api.OK)
	values(t, "set", w, alice, none, small(2), api.OK)
	asked(t, "set", c)
	shows(t, "set", w, 3, Entry{Addr: alice, Slots: []Slot{{none, small(2)}, {small(1), small(3)}}})
	values(t, "another slot", w, alice, api.Word{A: 1, D: 1}, small(8), api.OK)
	tells(t, "the account", w, alice, rich, api.OK)
	done(t, "to 0", w.SetSlot(alice, api.Word{A: 1, D: 1}, none))
	values(t, "to 0", w, alice, api.Word{A: 1, D: 1}, none, api.OK)
	values(t, "of another", New(nil), bob, small(1), none, api.OK)
	asked(t, "in all", c, ofWhat(1, alice, api.Word{A: 1, D: 1}), ofWhom(2, alice))
}

// TestSlotsApart: each address has slots of its own, and each part of a key counts.
func TestSlotsApart(t *testing.T) {
	w := New(nil)
	addrs := []string{alice, bob, zero, high, alice[1:] + "\x00", "\x00" + alice[1:]}
	keys := []api.Word{none, {A: 1}, {B: 1}, {C: 1}, {D: 1}, {A: 1, D: 1}, most}
	for i, addr := range addrs {
		for j, k := range keys {
			done(t, "set", w.SetSlot(addr, k, api.Word{B: uint64(i), C: uint64(j)}))
		}
	}
	for i, addr := range addrs {
		for j, k := range keys {
			values(t, "set", w, addr, k, api.Word{B: uint64(i), C: uint64(j)}, api.OK)
		}
		values(t, "another key", w, addr, small(2), none, api.OK)
	}
}

// TestDelete: nothing is asked, then or later; what is changed behind it holds.
func TestDelete(t *testing.T) {
	w, c := over(t, value(1, small(8)), account(2, rich))
	done(t, "set", w.SetSlot(alice, small(1), small(5)), w.SetSlot(bob, small(1), small(6)), w.Delete(alice), w.Delete(carol))
	tells(t, "deleted", w, alice, nothing, api.OK)
	tells(t, "deleted", w, carol, nothing, api.OK)
	for _, k := range []api.Word{none, small(1), small(2), most} {
		values(t, "deleted", w, alice, k, none, api.OK)
		values(t, "deleted", w, carol, k, none, api.OK)
	}
	asked(t, "deleted", c)
	gone := Entry{Addr: alice, Changed: true, Wiped: true}
	other := Entry{Addr: bob, Slots: []Slot{{small(1), small(6)}}}
	last := Entry{Addr: carol, Changed: true, Wiped: true}
	shows(t, "deleted", w, 4, gone, other, last)
	values(t, "another's", w, bob, small(1), small(6), api.OK)
	values(t, "another's, afar", w, bob, small(2), small(8), api.OK)
	tells(t, "another's, afar", w, bob, rich, api.OK)
	done(t, "behind", w.SetSlot(alice, small(2), small(7)), w.SetNonce(alice, 9))
	values(t, "behind", w, alice, small(2), small(7), api.OK)
	values(t, "behind", w, alice, small(1), none, api.OK)
	gone.Account.Nonce, gone.Slots = 9, []Slot{{small(2), small(7)}}
	shows(t, "behind", w, 6, gone, other, last)
	done(t, "again", w.Delete(alice), w.Delete(alice))
	shows(t, "again", w, 8, Entry{Addr: alice, Changed: true, Wiped: true}, other, last)
	asked(t, "in all", c, ofWhat(1, bob, small(2)), ofWhom(2, bob))
}

// TestMove: of so much that is owned, over nothing afar.
func TestMove(t *testing.T) {
	for _, x := range []struct {
		owned, taker, v, left, got api.Word
		mark                       int
	}{
		{small(10), small(3), small(4), small(6), small(7), 4},
		{small(10), small(3), small(10), none, small(13), 4},
		{most, none, most, none, most, 4},
		{most, small(1), most, none, none, 4}, // modulo 2^256
		{most, most, small(2), api.Word{A: math.MaxUint64, B: math.MaxUint64, C: math.MaxUint64, D: math.MaxUint64 - 2}, small(1), 4},
		{api.Word{A: 1}, none, small(1), api.Word{B: math.MaxUint64, C: math.MaxUint64, D: math.MaxUint64}, small(1), 4},
		{small(10), small(3), none, small(10), small(3), 2},
		{none, none, none, none, none, 2},
	} {
		w := New(nil)
		done(t, "move", w.SetBalance(alice, x.owned), w.SetBalance(bob, x.taker), w.Move(alice, bob, x.v))
		shows(t, fmt.Sprint(x), w, x.mark, Entry{Addr: alice, Changed: true, Account: api.Account{Balance: x.left}}, Entry{Addr: bob, Changed: true, Account: api.Account{Balance: x.got}})
	}
}

// TestMoveKeeps: nonce, code and slots stay.
func TestMoveKeeps(t *testing.T) {
	w, c := over(t, account(1, rich), account(2, api.Account{Nonce: 5, Balance: small(1), Code: "bob"}))
	done(t, "move", w.SetSlot(alice, none, small(1)), w.Move(alice, bob, api.Word{A: 1}))
	shows(t, "moved", w, 3,
		Entry{Addr: alice, Changed: true, Account: api.Account{Nonce: 3, Balance: small(9), Code: "code"}, Slots: []Slot{{none, small(1)}}},
		Entry{Addr: bob, Changed: true, Account: api.Account{Nonce: 5, Balance: api.Word{A: 1, D: 1}, Code: "bob"}})
	asked(t, "moved", c, ofWhom(1, alice), ofWhom(2, bob))
}

func TestMoveFunds(t *testing.T) {
	for _, x := range []struct{ owned, v api.Word }{
		{none, small(1)}, {small(9), small(10)}, {small(9), most}, {small(9), api.Word{A: 1}}, {small(9), api.Word{B: 1}}, {small(9), api.Word{C: 1}},
		{api.Word{B: 7, C: 7, D: 7}, api.Word{A: 1}}, {api.Word{A: 1}, api.Word{A: 1, D: 1}},
	} {
		w := New(nil)
		done(t, "funds", w.SetBalance(alice, x.owned), w.SetBalance(bob, most))
		before := w.All()
		for _, to := range []string{bob, alice, carol} {
			if e := w.Move(alice, to, x.v); e != api.ErrFunds {
				t.Error(x, e)
			}
		}
		shows(t, "funds", w, 2, before...)
	}
	w, c := over(t, account(1, api.Account{Balance: small(9)}))
	if e := w.Move(alice, bob, small(10)); e != api.ErrFunds {
		t.Error(e)
	}
	asked(t, "nothing is to be added", c, ofWhom(1, alice))
	shows(t, "funds", w, 0)
}

func TestMoveToSelf(t *testing.T) {
	w, c := over(t, account(1, rich))
	done(t, "self", w.Move(alice, alice, small(9)), w.Move(alice, alice, rich.Balance), w.Move(alice, alice, none))
	if e := w.Move(alice, alice, api.Word{A: 1, D: 10}); e != api.ErrFunds {
		t.Error(e)
	}
	asked(t, "self", c, ofWhom(1, alice))
	shows(t, "self", w, 0)
	done(t, "self", w.SetBalance(alice, most), w.Move(alice, alice, most))
	shows(t, "self", w, 1, Entry{Addr: alice, Changed: true, Account: api.Account{Nonce: 3, Balance: most, Code: "code"}})
}

// TestMoveAsks: from first, then to, also of 0; with an error of either nothing is done.
func TestMoveAsks(t *testing.T) {
	for _, v := range []api.Word{none, small(9)} {
		w, c := over(t, account(1, rich), account(2, nothing))
		done(t, "asks", w.Move(alice, bob, v))
		asked(t, "asks", c, ofWhom(1, alice), ofWhom(2, bob))
		w, c = over(t, account(1, rich))
		if e := w.Move(alice, bob, v); e != api.ErrRemote {
			t.Error(v, e)
		}
		asked(t, "of to nothing is told", c, ofWhom(1, alice), ofWhom(2, bob), ofWhom(3, bob), ofWhom(4, bob))
		shows(t, "of to nothing is told", w, 0)
		w, c = over(t, account(4, rich))
		if e := w.Move(alice, bob, v); e != api.ErrRemote {
			t.Error(v, e)
		}
		asked(t, "of from nothing is told", c, ofWhom(1, alice), ofWhom(2, alice), ofWhom(3, alice))
		shows(t, "of from nothing is told", w, 0)
	}
}

// P10.2

// TestMarkCounts: each change that was done, and no call that wasn't, or that changed nothing.
func TestMarkCounts(t *testing.T) {
	w := New(nil)
	mark := func(what string, want int, l ...api.Errno) {
		t.Helper()
		done(t, what, l...)
		if got := w.Mark(); got != want {
			t.Errorf("%s: %d, not %d", what, got, want)
		}
	}
	mark("new", 0)
	mark("SetNonce", 1, w.SetNonce(alice, 1))
	mark("SetBalance", 2, w.SetBalance(alice, small(5)))
	mark("SetCode", 3, w.SetCode(alice, "c"))
	mark("SetSlot", 5, w.SetSlot(alice, none, small(1)), w.SetSlot(alice, small(1), small(1)))
	mark("Move", 7, w.Move(alice, bob, small(2)))
	mark("Move of 0", 7, w.Move(alice, bob, none))
	mark("Move to itself", 7, w.Move(alice, alice, small(1)))
	mark("Delete", 9, w.Delete(alice), w.Delete(carol))
	w.Move(alice, bob, small(1))
	w.SetCode(alice, strings.Repeat("c", api.MaxCode+1))
	w.SetNonce("", 1)
	w.Delete("")
	mark("errors", 9)
	if !w.Back(4) {
		t.Error("Back")
	}
	mark("taken back", 4)
	mark("and on", 6, w.Delete(alice), w.SetSlot(alice, none, none))
}

func TestBackWhere(t *testing.T) {
	w := New(nil)
	done(t, "set", w.SetNonce(alice, 1), w.SetNonce(alice, 2), w.SetSlot(bob, none, small(3)))
	all := w.All()
	for _, mark := range []int{-1, -2, -3, math.MinInt, 4, 5, 6, math.MaxInt} {
		if w.Back(mark) {
			t.Error("back to", mark)
		}
		shows(t, fmt.Sprint(mark), w, 3, all...)
	}
	for mark := 3; mark >= 0; mark-- {
		if !w.Back(mark) || w.Mark() != mark || w.Back(mark+1) || !w.Back(mark) {
			t.Error("not back to", mark)
		}
	}
	shows(t, "all", w, 0)
	if !w.Back(0) || !New(nil).Back(0) || New(nil).Back(1) {
		t.Error("of nothing")
	}
}

// TestBackOfEach: each call alone, on top of each other one.
func TestBackOfEach(t *testing.T) {
	steps := []func(w *World) api.Errno{
		func(w *World) api.Errno { return w.SetNonce(alice, 7) },
		func(w *World) api.Errno { return w.SetBalance(alice, small(100)) },
		func(w *World) api.Errno { return w.SetCode(alice, "new") },
		func(w *World) api.Errno { return w.SetSlot(alice, none, small(4)) },
		func(w *World) api.Errno { return w.SetSlot(alice, none, none) },
		func(w *World) api.Errno { return w.SetSlot(alice, small(1), small(5)) },
		func(w *World) api.Errno { return w.Delete(alice) },
		func(w *World) api.Errno { return w.Move(bob, alice, small(3)) },
		func(w *World) api.Errno { return w.Move(bob, carol, small(3)) },
	}
	for i := range len(steps) * len(steps) * len(steps) {
		w, c := over(t, account(1, rich), account(2, rich), account(3, rich))
		c.Account(bob)
		c.Account(alice)
		c.Account(carol)
		var marks []int
		var kept [][]Entry
		for _, k := range []int{i % len(steps), i / len(steps) % len(steps), i / len(steps) / len(steps)} {
			marks, kept = append(marks, w.Mark()), append(kept, w.All())
			done(t, "step", steps[k](w))
		}
		for k := len(marks) - 1; k >= 0; k-- {
			if !w.Back(marks[k]) {
				t.Fatal(i, k)
			}
			shows(t, fmt.Sprint(i, k), w, marks[k], kept[k]...)
		}
		if len(w.of) != 0 || len(c.Asked()) != 3 {
			t.Error(i, w.of, c.Asked())
		}
	}
}

// TestBackInOrder: of one thing changed often each value comes back in turn, the first one last.
func TestBackInOrder(t *testing.T) {
	w := New(nil)
	for i := range uint64(50) {
		done(t, "set", w.SetNonce(alice, i), w.SetSlot(alice, none, small(i)), w.SetBalance(bob, small(i)))
	}
	for _, i := range []uint64{49, 48, 30, 7, 1, 0} {
		if !w.Back(int(3*i + 3)) {
			t.Error(i)
		}
		tells(t, "back", w, alice, api.Account{Nonce: i}, api.OK)
		tells(t, "back", w, bob, api.Account{Balance: small(i)}, api.OK)
		values(t, "back", w, alice, none, small(i), api.OK)
	}
	w.Back(1)
	shows(t, "the first", w, 1, Entry{Addr: alice, Changed: true})
}

// TestBackIntoMove: of its two changes the taking is the first one.
func TestBackIntoMove(t *testing.T) {
	w := New(nil)
	done(t, "move", w.SetBalance(alice, small(10)), w.Move(alice, bob, small(4)))
	if !w.Back(2) {
		t.Error("Back")
	}
	shows(t, "taken, not added", w, 2, Entry{Addr: alice, Changed: true, Account: api.Account{Balance: small(6)}})
	if !w.Back(1) {
		t.Error("Back")
	}
	shows(t, "not taken", w, 1, Entry{Addr: alice, Changed: true, Account: api.Account{Balance: small(10)}})
}

// TestBackOfDelete: its slots are as they were, though others were set behind it.
func TestBackOfDelete(t *testing.T) {
	w, c := over(t, value(1, small(8)))
	done(t, "set", w.SetSlot(alice, small(1), small(5)), w.SetSlot(alice, small(2), small(6)))
	mark, all := w.Mark(), w.All()
	done(t, "delete", w.Delete(alice), w.SetSlot(alice, small(1), small(9)), w.SetSlot(alice, small(3), small(9)), w.SetNonce(alice, 1), w.Delete(alice), w.SetSlot(alice, small(2), none))
	if !w.Back(mark) {
		t.Error("Back")
	}
	shows(t, "back", w, mark, all...)
	values(t, "afar again", w, alice, small(3), small(8), api.OK)
	asked(t, "afar again", c, ofWhat(1, alice, small(3)))
}

// P10.3

func TestAllRises(t *testing.T) {
	w := New(nil)
	addrs := []string{zero, zero[1:] + "\x01", "\x00" + high[1:], "\x01" + zero[1:], "\x7f" + high[1:], "\x80" + zero[1:], high[1:] + "\x00", high}
	keys := []api.Word{none, {D: 1}, {D: math.MaxUint64}, {C: 1}, {C: 1, D: 1}, {C: math.MaxUint64}, {B: 1}, {B: math.MaxUint64, D: 1}, {A: 1}, {A: 1 << 63}, most}
	for i := range addrs {
		addr := addrs[i*5%len(addrs)]
		for j := range keys {
			done(t, "set", w.SetSlot(addr, keys[j*7%len(keys)], small(uint64(j*7%len(keys)))))
		}
	}
	var want []Entry
	for _, addr := range addrs {
		x := Entry{Addr: addr}
		for j, k := range keys {
			x.Slots = append(x.Slots, Slot{k, small(uint64(j))})
		}
		want = append(want, x)
	}
	for range 20 { // whatever the order of a map
		shows(t, "rising", w, len(addrs)*len(keys), want...)
	}
}

// loads are lists that may be loaded.
func loads() map[string][]Entry {
	full := strings.Repeat("c", api.MaxCode)
	return map[string][]Entry{
		"nothing":         nil,
		"an empty list":   {},
		"an account":      {{Addr: alice, Changed: true, Account: rich}},
		"of nothing":      {{Addr: alice, Changed: true}},
		"just wiped":      {{Addr: alice, Wiped: true}},
		"wiped, changed":  {{Addr: alice, Wiped: true, Changed: true, Account: rich}},
		"wiped, a slot":   {{Addr: alice, Wiped: true, Slots: []Slot{{small(1), small(2)}}}},
		"a slot":          {{Addr: alice, Slots: []Slot{{small(1), small(2)}}}},
		"a slot of 0":     {{Addr: alice, Slots: []Slot{{}}}},
		"slots":           {{Addr: alice, Slots: []Slot{{}, {small(1), most}, {api.Word{C: 1}, none}, {api.Word{B: 1}, most}, {api.Word{A: 1}, most}, {most, most}}}},
		"a long code":     {{Addr: alice, Changed: true, Account: api.Account{Code: full}}},
		"addresses":       {{Addr: zero, Changed: true}, {Addr: zero[1:] + "\x01", Wiped: true}, {Addr: alice, Slots: []Slot{{}}}, {Addr: high[1:] + "\x00", Wiped: true}, {Addr: high, Changed: true, Account: rich}},
		"two long codes":  {{Addr: alice, Changed: true, Account: api.Account{Code: full}}, {Addr: bob, Changed: true, Account: api.Account{Code: full}}},
		"slots of others": {{Addr: alice, Slots: []Slot{{most, none}}}, {Addr: bob, Slots: []Slot{{none, most}}}},
	}
}

// changed is a world of which something is changed, over nothing.
func changed(t *testing.T) *World {
	t.Helper()
	w := New(nil)
	done(t, "set", w.SetBalance(alice, small(5)), w.SetSlot(alice, small(1), small(6)), w.SetSlot(alice, small(9), small(6)), w.Delete(bob), w.SetCode(carol, "code"))
	return w
}

func TestLoad(t *testing.T) {
	for name, l := range loads() {
		w := changed(t)
		done(t, name, w.Load(l))
		shows(t, name, w, 0, l...)
		if w.Back(1) || w.Back(-1) || !w.Back(0) {
			t.Errorf("%s: something can be taken back", name)
		}
		shows(t, name, w, 0, l...)
		done(t, name, w.SetNonce(alice, 8), w.SetSlot(alice, small(1), small(8)), w.SetSlot(high, most, small(8)), w.Delete(alice), w.SetSlot(alice, none, most), w.Delete(zero))
		if w.Mark() != 6 || !w.Back(0) {
			t.Errorf("%s: %d", name, w.Mark())
		}
		shows(t, name, w, 0, l...)
	}
}

// TestLoadTells: what is loaded is told; the rest is as afar, and nothing is asked for by Load.
func TestLoadTells(t *testing.T) {
	w, c := over(t, account(1, rich), value(2, small(8)), account(3, rich))
	done(t, "load", w.Load([]Entry{
		{Addr: alice, Wiped: true, Slots: []Slot{{small(1), small(2)}}},
		{Addr: bob, Changed: true, Account: api.Account{Nonce: 1}},
		{Addr: carol, Changed: true, Wiped: true},
		{Addr: high},
	}))
	asked(t, "load", c)
	values(t, "wiped", w, alice, small(1), small(2), api.OK)
	values(t, "wiped", w, alice, small(2), none, api.OK)
	tells(t, "changed", w, bob, api.Account{Nonce: 1}, api.OK)
	tells(t, "gone", w, carol, nothing, api.OK)
	values(t, "gone", w, carol, none, none, api.OK)
	asked(t, "told", c)
	tells(t, "wiped, not changed", w, alice, rich, api.OK)
	values(t, "changed, not wiped", w, bob, none, small(8), api.OK)
	tells(t, "nothing", w, high, rich, api.OK)
	asked(t, "in all", c, ofWhom(1, alice), ofWhat(2, bob, none), ofWhom(3, high))
	shows(t, "an entry of nothing is no change", w, 0,
		Entry{Addr: alice, Wiped: true, Slots: []Slot{{small(1), small(2)}}}, Entry{Addr: bob, Changed: true, Account: api.Account{Nonce: 1}}, Entry{Addr: carol, Changed: true, Wiped: true})
	done(t, "changed now", w.SetNonce(alice, 7))
	shows(t, "changed now", w, 1,
		Entry{Addr: alice, Changed: true, Account: api.Account{Nonce: 7, Balance: rich.Balance, Code: rich.Code}, Wiped: true, Slots: []Slot{{small(1), small(2)}}}, Entry{Addr: bob, Changed: true, Account: api.Account{Nonce: 1}}, Entry{Addr: carol, Changed: true, Wiped: true})
}

// others are lists that may not be loaded, and what is told of them.
func others() map[string]struct {
	l []Entry
	e api.Errno
} {
	long := api.Account{Code: strings.Repeat("c", api.MaxCode+1)}
	type other = struct {
		l []Entry
		e api.Errno
	}
	out := map[string]other{
		"addresses that fall":    {[]Entry{{Addr: bob, Changed: true}, {Addr: alice, Changed: true}}, api.ErrArg},
		"fall at the end":        {[]Entry{{Addr: alice}, {Addr: carol}, {Addr: bob}}, api.ErrArg},
		"fall as bytes do":       {[]Entry{{Addr: high}, {Addr: alice}}, api.ErrArg},
		"an address twice":       {[]Entry{{Addr: alice, Changed: true}, {Addr: alice, Wiped: true}}, api.ErrArg},
		"a nonce, not changed":   {[]Entry{{Addr: alice, Account: api.Account{Nonce: 1}}}, api.ErrArg},
		"a balance, not changed": {[]Entry{{Addr: alice, Account: api.Account{Balance: api.Word{A: 1}}}}, api.ErrArg},
		"a code, not changed":    {[]Entry{{Addr: alice, Wiped: true, Account: api.Account{Code: "\x00"}}}, api.ErrArg},
		"the last, not changed":  {[]Entry{{Addr: alice, Changed: true}, {Addr: bob, Account: rich, Slots: []Slot{{}}}}, api.ErrArg},
		"a slot twice":           {[]Entry{{Addr: alice, Slots: []Slot{{small(1), small(1)}, {small(1), small(2)}}}}, api.ErrArg},
		"slots that fall":        {[]Entry{{Addr: alice, Slots: []Slot{{Key: api.Word{C: 1}}, {Key: small(7)}}}}, api.ErrArg},
		"the last's slots fall":  {[]Entry{{Addr: alice, Slots: []Slot{{}}}, {Addr: bob, Slots: []Slot{{}, {Key: small(2)}, {Key: small(1)}}}}, api.ErrArg},
		"too long":               {[]Entry{{Addr: alice, Changed: true, Account: long}}, api.ErrLong},
		"the last too long":      {[]Entry{{Addr: alice, Changed: true}, {Addr: bob, Changed: true, Wiped: true, Account: long}}, api.ErrLong},
		"long, not changed":      {[]Entry{{Addr: alice, Account: long}}, api.ErrArg},
		"long, then falling":     {[]Entry{{Addr: bob, Changed: true, Account: long}, {Addr: alice}}, api.ErrArg},
		"long, then no address":  {[]Entry{{Addr: bob, Changed: true, Account: long}, {Addr: bob + "b"}}, api.ErrArg},
		"long, then slots fall":  {[]Entry{{Addr: alice, Changed: true, Account: long}, {Addr: bob, Slots: []Slot{{}, {}}}}, api.ErrArg},
		"long, its slots fall":   {[]Entry{{Addr: alice, Changed: true, Account: long, Slots: []Slot{{}, {}}}}, api.ErrArg},
		"long, another changed":  {[]Entry{{Addr: alice, Changed: true, Account: long}, {Addr: bob, Account: rich}}, api.ErrArg},
	}
	for _, addr := range wrongAddrs() {
		out[fmt.Sprintf("%.50q", addr)] = other{[]Entry{{Addr: addr, Changed: true}}, api.ErrArg}
		out[fmt.Sprintf("%.50q behind", addr)] = other{[]Entry{{Addr: zero}, {Addr: "b" + addr}}, api.ErrArg}
	}
	delete(out, fmt.Sprintf("%.50q behind", alice[1:])) // which is an address
	return out
}

func TestLoadRefuses(t *testing.T) {
	for name, x := range others() {
		w := changed(t)
		all := w.All()
		if e := w.Load(x.l); e != x.e {
			t.Errorf("%s: %d, not %d", name, e, x.e)
		}
		shows(t, name, w, 5, all...)
		if !w.Back(0) || len(w.All()) != 0 {
			t.Errorf("%s: can't be taken back", name)
		}
	}
}

// P10.4

// TestAllLoads: what All tells is all: another world that loads it is the same one.
func TestAllLoads(t *testing.T) {
	w := changed(t)
	done(t, "more", w.SetSlot(bob, most, small(1)), w.Move(alice, carol, small(2)), w.SetSlot(carol, api.Word{B: 1}, none))
	for range 3 {
		all := w.All()
		other := New(nil)
		done(t, "load", other.Delete(zero), other.Load(all))
		shows(t, "loaded", other, 0, all...)
		for _, x := range all {
			tells(t, "loaded", other, x.Addr, x.Account, api.OK)
		}
		w = other
	}
}

// P3

// TestNothingShared: what was handed in, or told, may be changed without a change of the world.
func TestNothingShared(t *testing.T) {
	l := make([]Entry, 2, 4)
	l[0] = Entry{Addr: alice, Changed: true, Account: rich, Slots: make([]Slot, 1, 3)}
	l[1] = Entry{Addr: bob, Wiped: true, Slots: []Slot{{small(1), small(1)}, {small(2), small(2)}}}
	spare := []Entry{{Addr: carol, Wiped: true}, {Addr: high}}
	copy(l[2:4], spare)
	clean := func() []Entry {
		return []Entry{{Addr: alice, Changed: true, Account: rich, Slots: []Slot{{}}}, {Addr: bob, Wiped: true, Slots: []Slot{{small(1), small(1)}, {small(2), small(2)}}}}
	}
	w := New(nil)
	done(t, "load", w.Load(l))
	if !alike(l, clean()) || !alike(l[2:4], spare) || l[0].Slots[:3][1] != (Slot{}) {
		t.Error("written into", l)
	}
	spoil(l)
	shows(t, "what was handed in is changed", w, 0, clean()...)
	first, second := w.All(), w.All()
	spoil(first)
	if !alike(second, clean()) {
		t.Error("shared", second)
	}
	shows(t, "what was told is changed", w, 0, clean()...)
	done(t, "set", w.SetSlot(bob, small(1), most), w.SetNonce(alice, 9))
	if !alike(second, clean()) {
		t.Error("what was told changes", second)
	}
}

// spoil changes all of a list that can be, and writes behind the lists in it.
func spoil(l []Entry) {
	for i := range l {
		for k := range l[i].Slots {
			l[i].Slots[k] = Slot{most, most}
		}
		_ = append(l[i].Slots, Slot{most, small(5)})
		l[i].Addr, l[i].Changed, l[i].Wiped, l[i].Account = carol, true, true, nothing
	}
	_ = append(l, Entry{Addr: high})
}

// TestNoMoreIsKept: than an address, and a code, of what they were cut from.
func TestNoMoreIsKept(t *testing.T) {
	inside := func(s, all string) bool {
		from, place := uintptr(unsafe.Pointer(unsafe.StringData(all))), uintptr(unsafe.Pointer(unsafe.StringData(s)))
		return place >= from && place < from+uintptr(len(all))
	}
	big := strings.Repeat("0123456789", 100)
	set := map[string]func(w *World, addr, code string) api.Errno{
		"SetCode":    (*World).SetCode,
		"SetBalance": func(w *World, addr, _ string) api.Errno { return w.SetBalance(addr, most) },
		"SetSlot":    func(w *World, addr, _ string) api.Errno { return w.SetSlot(addr, most, most) },
		"Delete":     func(w *World, addr, _ string) api.Errno { return w.Delete(addr) },
		"Load": func(w *World, addr, code string) api.Errno {
			return w.Load([]Entry{{Addr: addr, Changed: true, Account: api.Account{Code: code}}})
		},
	}
	for name, call := range set {
		w := New(nil)
		done(t, name, call(w, big[500:520], big[10:90]))
		for _, x := range w.All() {
			if inside(x.Addr, big) || inside(x.Account.Code, big) {
				t.Errorf("%s: it is kept", name)
			}
		}
	}
}

// TestTakenBackIsGone: what was taken back can come from nowhere any more.
func TestTakenBackIsGone(t *testing.T) {
	w := changed(t)
	w.Back(2)
	for _, back := range w.backs[:cap(w.backs)][len(w.backs):] {
		if back != nil {
			t.Error("kept")
		}
	}
	done(t, "load", w.Load(nil))
	if len(w.backs) != 0 || len(w.of) != 0 || cap(w.backs) != 0 {
		t.Error("kept by Load")
	}
}
