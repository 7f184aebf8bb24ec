package warm

import (
	"fmt"
	"math"
	"reflect"
	"slices"
	"strings"
	"testing"
	"unsafe"

	"stithy/api"
)

const (
	alice = "aaaaaaaaaaaaaaaaaaaa"
	bob   = "bbbbbbbbbbbbbbbbbbbb"
	carol = "cccccccccccccccccccc"
	zero  = "\x00\x00\x00\x00\x00\x00\x00\x00\x00\x00\x00\x00\x00\x00\x00\x00\x00\x00\x00\x00"
	high  = "\xff\xff\xff\xff\xff\xff\xff\xff\xff\xff\xff\xff\xff\xff\xff\xff\xff\xff\xff\xff"
)

var (
	none api.Word
	most = api.Word{A: math.MaxUint64, B: math.MaxUint64, C: math.MaxUint64, D: math.MaxUint64}
)

func small(n uint64) api.Word { return api.Word{D: n} }

// addrs are texts that differ from each other, though some hardly do: nobody asks for 20 bytes here.
func addrs() []string {
	out := []string{"", "\x00", "a", "a\x00", alice, bob, zero, high, alice[1:], alice + "a", strings.Repeat("a", 70000)}
	for i := range alice {
		out = append(out, alice[:i]+"\x00"+alice[i+1:], alice[:i]+"\xff"+alice[i+1:])
	}
	return out
}

// keys are words that differ from each other in one part of them, or more.
func keys() []api.Word {
	out := []api.Word{none, most, {A: 1, B: 1, C: 1, D: 1}}
	for i := range 64 {
		bit := uint64(1) << i
		out = append(out, api.Word{A: bit}, api.Word{B: bit}, api.Word{C: bit}, api.Word{D: bit})
	}
	return out
}

// alike holds logs against each other: a list of nothing may be nil or empty.
func alike(a, b []api.Log) bool {
	return slices.EqualFunc(a, b, func(x, y api.Log) bool {
		same := slices.Equal(x.Topics, y.Topics)
		x.Topics, y.Topics = nil, nil
		return same && reflect.DeepEqual(x, y)
	})
}

// shows says what a set tells of all but what is warm or was made.
func shows(t *testing.T, what string, s *Set, mark int, total int64, logs []api.Log, leaving []string) {
	t.Helper()
	if got := s.Mark(); got != mark {
		t.Errorf("%s: %d changes, not %d", what, got, mark)
	}
	if got := s.Total(); got != total {
		t.Errorf("%s: %d in all, not %d", what, got, total)
	}
	if got := s.Logs(); !alike(got, logs) {
		t.Errorf("%s: logs %.300s, not %.300s", what, fmt.Sprint(got), fmt.Sprint(logs))
	}
	if got := s.Leaving(); !slices.Equal(got, leaving) {
		t.Errorf("%s: %.300q leave, not %.300q", what, got, leaving)
	}
}

// answers says what calls answered, one behind the other.
func answers(t *testing.T, what string, want []bool, got ...bool) {
	t.Helper()
	if !slices.Equal(got, want) {
		t.Errorf("%s: %v, not %v", what, got, want)
	}
}

// back goes back, to where there is something.
func back(t *testing.T, what string, s *Set, mark int) {
	t.Helper()
	if !s.Back(mark) {
		t.Errorf("%s: not back to %d", what, mark)
	}
}

// P11.1

func TestNew(t *testing.T) {
	s := New()
	for range 2 { // what is asked changes nothing
		for _, addr := range addrs() {
			if s.HasAddr(addr) || s.HasSlot(addr, none) || s.HasSlot(addr, small(1)) || s.HasSlot(addr, most) {
				t.Errorf("%.50q is warm", addr)
			}
		}
		shows(t, "new", s, 0, 0, nil, nil)
	}
}

// TestAddr: each text is an address of its own, and is warm from its first time on.
func TestAddr(t *testing.T) {
	s := New()
	for i, addr := range addrs() {
		answers(t, fmt.Sprintf("%.50q", addr), []bool{false, false, true, true, true}, s.HasAddr(addr), s.Addr(addr), s.HasAddr(addr), s.Addr(addr), s.Addr(addr))
		if s.HasSlot(addr, none) || s.HasSlot(addr, most) {
			t.Errorf("%.50q: a slot is warm by that", addr)
		}
		shows(t, "Addr", s, i+1, 0, nil, nil)
	}
	for _, addr := range addrs() {
		if !s.HasAddr(addr) || !s.Addr(addr) {
			t.Errorf("%.50q isn't warm", addr)
		}
		if s.Slot(addr, none) || s.Made(addr) {
			t.Errorf("%.50q: its slot was warm by that, or it was made", addr)
		}
	}
	shows(t, "Addr", s, 3*len(addrs()), 0, nil, nil)
}

// TestSlot: each slot of each address is one of its own, and no address is warm by its slots.
func TestSlot(t *testing.T) {
	s := New()
	for i, addr := range addrs() {
		for j, k := range keys() {
			answers(t, fmt.Sprintf("%.50q, %v", addr, k), []bool{false, false, true, true, true}, s.HasSlot(addr, k), s.Slot(addr, k), s.HasSlot(addr, k), s.Slot(addr, k), s.Slot(addr, k))
			if got, want := s.Mark(), i*len(keys())+j+1; got != want {
				t.Errorf("%d changes, not %d", got, want)
			}
		}
		if s.HasAddr(addr) {
			t.Errorf("%.50q is warm by its slots", addr)
		}
	}
	for _, addr := range addrs() {
		if s.HasAddr(addr) || s.Addr(addr) || s.Made(addr) {
			t.Errorf("%.50q was warm by its slots, or made", addr)
		}
		for _, k := range keys() {
			if !s.HasSlot(addr, k) || !s.Slot(addr, k) {
				t.Errorf("%.50q, %v isn't warm", addr, k)
			}
		}
	}
	if s.HasSlot(carol, none) || s.HasSlot(alice, small(3)) {
		t.Error("another slot is warm")
	}
}

// TestMade: apart from being warm, and from leaving.
func TestMade(t *testing.T) {
	s := New()
	for i, addr := range addrs() {
		answers(t, fmt.Sprintf("%.50q", addr), []bool{false, true, true}, s.Made(addr), s.Made(addr), s.Made(addr))
		if s.HasAddr(addr) || s.HasSlot(addr, none) {
			t.Errorf("%.50q is warm by that", addr)
		}
		shows(t, "Made", s, i+1, 0, nil, nil)
	}
	s = New()
	s.Addr(alice)
	s.Slot(alice, none)
	s.Gone(alice)
	answers(t, "warm, and leaving", []bool{false, true}, s.Made(alice), s.Made(alice))
	answers(t, "made", []bool{false, false}, s.Made(bob), s.Addr(bob))
	shows(t, "both", s, 6, 0, nil, []string{alice})
}

func TestRefund(t *testing.T) {
	for _, x := range []struct {
		l    []int64
		want int64
	}{
		{nil, 0}, {[]int64{0}, 0}, {[]int64{1}, 1}, {[]int64{-1}, -1}, {[]int64{4800, 4800, -4800}, 4800}, {[]int64{10, -30}, -20},
		{[]int64{math.MaxInt64}, math.MaxInt64}, {[]int64{math.MinInt64}, math.MinInt64},
		{[]int64{math.MaxInt64, 1}, math.MinInt64}, {[]int64{math.MinInt64, -1}, math.MaxInt64}, {[]int64{1, math.MaxInt64}, math.MinInt64},
		{[]int64{math.MaxInt64, math.MaxInt64}, -2}, {[]int64{math.MinInt64, math.MinInt64}, 0}, {[]int64{math.MaxInt64, math.MinInt64}, -1},
		{[]int64{math.MaxInt64, 1, -1}, math.MaxInt64}, {[]int64{math.MaxInt64, math.MaxInt64, math.MaxInt64, 3}, math.MinInt64},
	} {
		s := New()
		for _, n := range x.l {
			s.Refund(n)
		}
		shows(t, fmt.Sprint(x.l), s, len(x.l), x.want, nil, nil)
		for i := len(x.l) - 1; i >= 0; i-- {
			back(t, "Refund", s, i)
			var sum int64
			for _, n := range x.l[:i] {
				sum += n
			}
			shows(t, fmt.Sprint(x.l, i), s, i, sum, nil, nil)
		}
	}
}

// logs are many of them, some of which are alike.
func logs() []api.Log {
	every := make([]byte, 256)
	for i := range every {
		every[i] = byte(i)
	}
	many := make([]api.Word, 1000)
	for i := range many {
		many[i] = api.Word{A: uint64(i), D: uint64(i) * 3}
	}
	return []api.Log{
		{},
		{Addr: alice},
		{Addr: alice, Topics: []api.Word{none}},
		{Addr: alice, Topics: []api.Word{none}},
		{Addr: bob, Topics: []api.Word{most, none, small(1), most}, Data: string(every)},
		{Addr: bob, Topics: []api.Word{}, Data: "x"},
		{},
		{Addr: strings.Repeat("c", 30), Topics: many, Data: strings.Repeat("d", 70000)},
		{Addr: alice, Topics: []api.Word{none}},
	}
}

// TestLog: each is the last one, also if it is there already.
func TestLog(t *testing.T) {
	s := New()
	for i, l := range logs() {
		s.Log(l)
		shows(t, "Log", s, i+1, 0, logs()[:i+1], nil)
	}
	if s.HasAddr(alice) || s.HasAddr("") || s.HasSlot(alice, none) {
		t.Error("warm by that")
	}
	for i := len(logs()); i >= 0; i-- {
		back(t, "Log", s, i)
		shows(t, "Log, back", s, i, 0, logs()[:i], nil)
	}
}

// TestGone: each once, rising by bytes, in whatever order they come.
func TestGone(t *testing.T) {
	rising := []string{"", "\x00", zero, zero + "\x00", "\x00" + high[1:], "Z", alice[1:], alice, alice + "\x00", bob, "b\xff", "\x7f", "\x80", "\xc3\xa4", high[1:], high}
	for turn := range 20 {
		s := New()
		for i := range rising {
			addr := rising[(i*7+turn)%len(rising)]
			s.Gone(addr)
			s.Gone(addr)
			if s.Mark() != i+1 || !slices.Contains(s.Leaving(), addr) || len(s.Leaving()) != i+1 || !slices.IsSorted(s.Leaving()) {
				t.Errorf("%q: %d, %q", addr, s.Mark(), s.Leaving())
			}
		}
		shows(t, "Gone", s, len(rising), 0, nil, rising)
		for _, addr := range rising {
			s.Gone(addr)
			if s.HasAddr(addr) || s.HasSlot(addr, none) {
				t.Errorf("%q is warm by that", addr)
			}
		}
		shows(t, "Gone again", s, len(rising), 0, nil, rising)
		for _, addr := range rising {
			if s.Made(addr) {
				t.Errorf("%q was made by that", addr)
			}
		}
	}
}

// P11.2

// TestMarkCounts: each change, and no call that made none.
func TestMarkCounts(t *testing.T) {
	s := New()
	mark := func(what string, want int) {
		t.Helper()
		if got := s.Mark(); got != want {
			t.Errorf("%s: %d, not %d", what, got, want)
		}
	}
	mark("new", 0)
	s.Addr(alice)
	mark("Addr", 1)
	s.Addr(alice)
	mark("Addr again", 1)
	s.Slot(alice, none)
	s.Slot(alice, small(1))
	mark("Slot", 3)
	s.Slot(alice, none)
	mark("Slot again", 3)
	s.Made(alice)
	mark("Made", 4)
	s.Made(alice)
	mark("Made again", 4)
	s.Refund(5)
	s.Refund(0)
	s.Refund(-5)
	mark("Refund", 7)
	s.Log(api.Log{})
	s.Log(api.Log{})
	mark("Log", 9)
	s.Gone(alice)
	mark("Gone", 10)
	s.Gone(alice)
	mark("Gone again", 10)
	s.HasAddr(bob)
	s.HasSlot(bob, none)
	s.Total()
	s.Logs()
	s.Leaving()
	mark("asked", 10)
	back(t, "some", s, 6)
	mark("taken back", 6)
	s.Addr(alice)
	s.Gone(alice)
	s.Addr(bob)
	mark("and on", 8)
}

func TestBackWhere(t *testing.T) {
	s := New()
	s.Addr(alice)
	s.Refund(5)
	s.Log(api.Log{Addr: alice})
	s.Gone(alice)
	for _, mark := range []int{-1, -2, -4, math.MinInt, 5, 6, 8, math.MaxInt} {
		if s.Back(mark) {
			t.Error("back to", mark)
		}
		shows(t, fmt.Sprint(mark), s, 4, 5, []api.Log{{Addr: alice}}, []string{alice})
		if !s.HasAddr(alice) {
			t.Error(mark, "cold")
		}
	}
	for mark := 4; mark >= 0; mark-- {
		if !s.Back(mark) || s.Mark() != mark || s.Back(mark+1) || !s.Back(mark) {
			t.Error("not back to", mark)
		}
	}
	shows(t, "all", s, 0, 0, nil, nil)
	if s.HasAddr(alice) || s.Back(1) || s.Back(-1) || !s.Back(0) || !New().Back(0) || New().Back(1) || New().Back(-1) {
		t.Error("of nothing")
	}
}

// P11.3

// steps are calls that are changes, of a set of which nothing is touched.
func steps() []func(s *Set) {
	return []func(s *Set){
		func(s *Set) { s.Addr(alice) },
		func(s *Set) { s.Addr(bob) },
		func(s *Set) { s.Slot(alice, none) },
		func(s *Set) { s.Slot(alice, most) },
		func(s *Set) { s.Slot(bob, none) },
		func(s *Set) { s.Made(alice) },
		func(s *Set) { s.Made(bob) },
		func(s *Set) { s.Refund(5) },
		func(s *Set) { s.Refund(math.MaxInt64) },
		func(s *Set) { s.Refund(0) },
		func(s *Set) { s.Log(api.Log{Addr: alice, Topics: []api.Word{most}, Data: "one"}) },
		func(s *Set) { s.Log(api.Log{Data: "two"}) },
		func(s *Set) { s.Gone(alice) },
		func(s *Set) { s.Gone(bob) },
	}
}

// told is all that a set tells of what the steps may touch; Made is asked last, and taken back.
func told(s *Set) string {
	out := fmt.Sprintf("%v %d %q %d", s.Logs(), s.Total(), s.Leaving(), s.Mark())
	for _, addr := range []string{alice, bob} {
		out += fmt.Sprint(" ", s.HasAddr(addr), s.HasSlot(addr, none), s.HasSlot(addr, most))
	}
	mark := s.Mark()
	out += fmt.Sprint(" ", s.Made(alice), s.Made(bob))
	s.Back(mark)
	return out
}

// TestBackOfEach: each call alone, on top of each two other ones.
func TestBackOfEach(t *testing.T) {
	l := steps()
	n := len(l)
	for i := range n * n * n {
		s := New()
		var marks []int
		var kept []string
		for _, k := range []int{i % n, i / n % n, i / n / n} {
			marks, kept = append(marks, s.Mark()), append(kept, told(s))
			l[k](s)
		}
		for k := len(marks) - 1; k >= 0; k-- {
			back(t, fmt.Sprint(i, k), s, marks[k])
			if got := told(s); got != kept[k] {
				t.Fatalf("%d, %d: %s, not %s", i, k, got, kept[k])
			}
		}
	}
}

// TestBackAtOnce: many changes of each kind are taken back in one go, and can be made anew, as if they never had been.
func TestBackAtOnce(t *testing.T) {
	s := New()
	s.Addr(carol)
	s.Log(api.Log{Addr: carol})
	s.Refund(7)
	before := told(s)
	for range 3 {
		for i := range 500 {
			addr := fmt.Sprintf("%020d", i)
			answers(t, addr, []bool{false, false, false}, s.Addr(addr), s.Slot(addr, none), s.Made(addr))
			s.Refund(int64(i) << 55)
			s.Log(api.Log{Addr: addr, Topics: []api.Word{small(uint64(i))}})
			s.Gone(addr)
		}
		if s.Mark() != 3003 || len(s.Logs()) != 501 || len(s.Leaving()) != 500 || s.Logs()[500].Topics[0] != small(499) {
			t.Error(s.Mark(), len(s.Logs()), len(s.Leaving()))
		}
		back(t, "all of them", s, 3)
		if got := told(s); got != before {
			t.Errorf("%s, not %s", got, before)
		}
	}
	answers(t, "what was ahead of it", []bool{true, false}, s.Addr(carol), s.Addr("00000000000000000000"))
}

// TestAgainAfterBack: what was taken back is a change anew.
func TestAgainAfterBack(t *testing.T) {
	s := New()
	for range 3 {
		answers(t, "anew", []bool{false, false, false}, s.Addr(alice), s.Slot(alice, none), s.Made(alice))
		s.Gone(alice)
		answers(t, "again", []bool{true, true, true}, s.Addr(alice), s.Slot(alice, none), s.Made(alice))
		shows(t, "again", s, 4, 0, nil, []string{alice})
		back(t, "again", s, 3)
		shows(t, "it leaves no more", s, 3, 0, nil, nil)
		back(t, "made", s, 2)
		answers(t, "made", []bool{false, true, true}, s.Made(alice), s.HasAddr(alice), s.HasSlot(alice, none))
		back(t, "slot", s, 1)
		answers(t, "slot", []bool{true, false}, s.HasAddr(alice), s.HasSlot(alice, none))
		back(t, "all", s, 0)
		answers(t, "all", []bool{false, false}, s.HasAddr(alice), s.HasSlot(alice, none))
	}
}

// P3

// TestTopicsAreCopied: what was handed in is not written into, nor what stands behind it, and may be changed.
func TestTopicsAreCopied(t *testing.T) {
	room := []api.Word{small(1), small(2), small(3), small(4)}
	s := New()
	s.Log(api.Log{Addr: alice, Topics: room[:2]})
	s.Log(api.Log{Addr: bob, Topics: room[1:1]})
	s.Log(api.Log{Addr: bob, Topics: room[1:3]})
	want := func() []api.Log {
		return []api.Log{{Addr: alice, Topics: []api.Word{small(1), small(2)}}, {Addr: bob}, {Addr: bob, Topics: []api.Word{small(2), small(3)}}}
	}
	if !slices.Equal(room, []api.Word{small(1), small(2), small(3), small(4)}) {
		t.Error("written into", room)
	}
	for i := range room {
		room[i] = most
	}
	shows(t, "changed behind it", s, 3, 0, want(), nil)
	back(t, "one", s, 2)
	if !slices.Equal(room, []api.Word{most, most, most, most}) {
		t.Error("written into", room)
	}
	shows(t, "changed behind it", s, 2, 0, want()[:2], nil)
}

// TestAnswersStay: what was told is not changed by what is done then, nor is another answer by what is done to it.
func TestAnswersStay(t *testing.T) {
	s := New()
	for i := range uint64(5) {
		s.Log(api.Log{Addr: alice, Topics: []api.Word{small(i), most}, Data: "d"})
		s.Gone(string(rune('a' + i)))
	}
	logs, leaving := s.Logs(), s.Leaving()
	keptLogs, keptLeaving := fmt.Sprint(logs), fmt.Sprint(leaving)
	back(t, "some", s, 2)
	s.Log(api.Log{Addr: bob})
	s.Gone("A")
	if fmt.Sprint(logs) != keptLogs || fmt.Sprint(leaving) != keptLeaving {
		t.Error("what was told changes", logs, leaving)
	}
	other, others := s.Logs(), s.Leaving()
	spoil(other)
	others[0] = "spoilt"
	_ = append(others, "spoilt")
	shows(t, "spoilt", s, 4, 0, []api.Log{{Addr: alice, Topics: []api.Word{small(0), most}, Data: "d"}, {Addr: bob}}, []string{"A", "a"})
}

// spoil changes all of a list that can be, and writes behind the lists in it.
func spoil(l []api.Log) {
	for i := range l {
		for k := range l[i].Topics {
			l[i].Topics[k] = small(9)
		}
		_ = append(l[i].Topics, small(9), small(9))
		l[i] = api.Log{Addr: carol, Data: "spoilt"}
	}
	_ = append(l, api.Log{Addr: carol})
}

// TestNoMoreIsKept: than an address, and a log's texts, of what they were cut from.
func TestNoMoreIsKept(t *testing.T) {
	inside := func(s, all string) bool {
		from, place := uintptr(unsafe.Pointer(unsafe.StringData(all))), uintptr(unsafe.Pointer(unsafe.StringData(s)))
		return place >= from && place < from+uintptr(len(all))
	}
	big := strings.Repeat("0123456789", 100)
	addr := big[500:520]
	s := New()
	s.Addr(addr)
	s.Slot(addr, none)
	s.Made(addr)
	s.Gone(addr)
	s.Log(api.Log{Addr: addr, Data: big[10:90]})
	var held []string
	for p := range s.warm {
		held = append(held, p.addr)
	}
	for a := range s.made {
		held = append(held, a)
	}
	held = append(held, s.Leaving()...)
	held = append(held, s.Logs()[0].Addr, s.Logs()[0].Data)
	if len(held) != 6 {
		t.Error(held)
	}
	for i, x := range held {
		if inside(x, big) {
			t.Errorf("%d: %q is kept", i, x)
		}
	}
}

// TestTakenBackIsGone: nothing is held any more of what was taken back.
func TestTakenBackIsGone(t *testing.T) {
	s := New()
	for _, step := range steps() {
		step(s)
	}
	back(t, "all", s, 0)
	if len(s.warm)+len(s.made)+len(s.leaving) != 0 {
		t.Error("kept", s.warm, s.made, s.leaving)
	}
	for _, f := range s.backs[:cap(s.backs)] {
		if f != nil {
			t.Error("how to take back is kept")
		}
	}
	for _, l := range s.logs[:cap(s.logs)] {
		if !reflect.DeepEqual(l, api.Log{}) {
			t.Error("a log is kept", l)
		}
	}
}

// P4

// TestSetsApart: what is done to one isn't seen in another.
func TestSetsApart(t *testing.T) {
	one, two := New(), New()
	for _, step := range steps() {
		step(one)
	}
	shows(t, "the other", two, 0, 0, nil, nil)
	if two.HasAddr(alice) || two.HasSlot(alice, none) || two.Made(alice) {
		t.Error("the other")
	}
	before := told(one)
	two.Back(0)
	two.Refund(9)
	two.Log(api.Log{Data: "x"})
	if got := told(one); got != before {
		t.Errorf("%s, not %s", got, before)
	}
}

func BenchmarkAddrWarm(b *testing.B) {
	s := New()
	for b.Loop() {
		s.Addr(alice)
	}
}

func BenchmarkSlotAndBack(b *testing.B) {
	s := New()
	for b.Loop() {
		s.Slot(alice, most)
		s.Back(0)
	}
}
