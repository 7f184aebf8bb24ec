package disk

import (
	"fmt"
	"math"
	"slices"
	"strings"
	"testing"

	"stithy/api"
)

// next goes through all numbers of 64 bits but 0, always in the same order.
func next(seed *uint64) uint64 {
	*seed ^= *seed << 13
	*seed ^= *seed >> 7
	*seed ^= *seed << 17
	return *seed
}

// model is a disk by the chapter's words: its files stand in a list, and what they have is counted each time.
type model struct {
	room, after, torn int
	crashed           bool
	files             []modelFile
}

type modelFile struct{ name, synced, rest string }

func (m *model) place(name string) int {
	return slices.IndexFunc(m.files, func(f modelFile) bool { return f.name == name })
}

func (m *model) used() int {
	sum := 0
	for _, f := range m.files {
		sum += len(f.synced + f.rest)
	}
	return sum
}

func (m *model) put(name, s string) {
	if m.place(name) < 0 {
		m.files = append(m.files, modelFile{name: name})
	}
	m.files[m.place(name)].rest += s
}

// crashes tells whether the disk has crashed, or does so in the step that begins here, and in which of the two ways.
func (m *model) crashes() (crashed, now bool) {
	if m.crashed {
		return true, false
	}
	m.after--
	m.crashed = m.after == -1
	m.after = max(m.after, -2)
	return m.crashed, m.crashed
}

func (m *model) append(name, s string) api.Errno {
	full := m.used()+len(s) > m.room
	crashed, now := m.crashes()
	switch {
	case now && !full && m.torn > 0 && s != "":
		m.put(name, s[:min(m.torn, len(s))])
	case !crashed && !full:
		m.put(name, s)
	}
	if crashed {
		return api.ErrCrash
	}
	if full {
		return api.ErrFull
	}
	return api.OK
}

// missing is what a step at a file answers, if it does nothing.
func (m *model) missing(name string) api.Errno {
	if crashed, _ := m.crashes(); crashed {
		return api.ErrCrash
	}
	if m.place(name) < 0 {
		return api.ErrNone
	}
	return api.OK
}

func (m *model) sync(name string) api.Errno {
	e := m.missing(name)
	if e == api.OK {
		f := &m.files[m.place(name)]
		f.synced, f.rest = f.synced+f.rest, ""
	}
	return e
}

func (m *model) delete(name string) api.Errno {
	e := m.missing(name)
	if e == api.OK {
		m.files = slices.Delete(m.files, m.place(name), m.place(name)+1)
	}
	return e
}

func (m *model) rename(from, to string) api.Errno {
	e := m.missing(from)
	if e == api.OK && from != to {
		m.files = slices.DeleteFunc(m.files, func(f modelFile) bool { return f.name == to })
		m.files[m.place(from)].name = to
	}
	return e
}

func (m *model) lost(keep int) *model {
	out := &model{room: m.room, after: -2}
	for _, f := range m.files {
		kept := f.rest[:min(max(keep, 0), len(f.rest))]
		out.files = append(out.files, modelFile{name: f.name, synced: f.synced + kept})
	}
	return out
}

func (m *model) show() string {
	files := slices.Clone(m.files)
	slices.SortFunc(files, func(a, b modelFile) int { return strings.Compare(a.name, b.name) })
	out := fmt.Sprint(m.used(), m.crashed)
	for _, f := range files {
		out += fmt.Sprintf(" %q:%q", f.name, f.synced+f.rest)
	}
	return out
}

// show tells all of a disk that can be seen without a step.
func show(d *Disk) string {
	out := fmt.Sprint(d.Used(), d.Crashed())
	for _, name := range d.Names() {
		s, ok := d.Read(name)
		if !ok {
			return "not there: " + name
		}
		out += fmt.Sprintf(" %q:%q", name, s)
	}
	return out
}

// holds says that d is shown as want.
func holds(t *testing.T, what string, d *Disk, want string) {
	t.Helper()
	if got := show(d); got != want {
		t.Errorf("%s: %s, not %s", what, got, want)
	}
}

// answers says that a step answers want.
func answers(t *testing.T, what string, got, want api.Errno) {
	t.Helper()
	if got != want {
		t.Errorf("%s: %d, not %d", what, got, want)
	}
}

// made is a disk of so much room.
func made(t *testing.T, room int) *Disk {
	t.Helper()
	d, e := New(room)
	if e != api.OK {
		t.Fatalf("a disk of %d: %d", room, e)
	}
	return d
}

// filled is a disk of room 10 on which a has abc, two of them synced, and b has none.
func filled(t *testing.T) *Disk {
	t.Helper()
	d := made(t, 10)
	for i, e := range []api.Errno{d.Append("a", "ab"), d.Sync("a"), d.Append("a", "c"), d.Append("b", "")} {
		answers(t, fmt.Sprint("filling, step ", i), e, api.OK)
	}
	return d
}

const (
	filledShown = `3 false "a":"abc" "b":""`
	filledLost  = `2 false "a":"ab" "b":""`
	crashShown  = `3 true "a":"abc" "b":""`
)

// step is a step by its name, on a disk like filled.
type step struct {
	name string
	do   func(d *Disk) api.Errno
}

// steps are of each kind, such as are done, and such as are not.
func steps() []step {
	return []step{
		{"append", func(d *Disk) api.Errno { return d.Append("a", "xyz") }},
		{"append nothing", func(d *Disk) api.Errno { return d.Append("a", "") }},
		{"append to none", func(d *Disk) api.Errno { return d.Append("n", "xyz") }},
		{"append nothing to none", func(d *Disk) api.Errno { return d.Append("n", "") }},
		{"append too much", func(d *Disk) api.Errno { return d.Append("a", "12345678") }},
		{"append too much to none", func(d *Disk) api.Errno { return d.Append("n", "12345678") }},
		{"sync", func(d *Disk) api.Errno { return d.Sync("a") }},
		{"sync none", func(d *Disk) api.Errno { return d.Sync("n") }},
		{"rename", func(d *Disk) api.Errno { return d.Rename("a", "n") }},
		{"rename over another", func(d *Disk) api.Errno { return d.Rename("a", "b") }},
		{"rename to the same", func(d *Disk) api.Errno { return d.Rename("a", "a") }},
		{"rename none", func(d *Disk) api.Errno { return d.Rename("n", "a") }},
		{"delete", func(d *Disk) api.Errno { return d.Delete("a") }},
		{"delete none", func(d *Disk) api.Errno { return d.Delete("n") }},
	}
}

// P6.1

func TestNew(t *testing.T) {
	for _, room := range []int{-1, math.MinInt, api.MaxDisk + 1, math.MaxInt, 1 << 32} {
		if d, e := New(room); d != nil || e != api.ErrArg {
			t.Errorf("of %d: %v, %d", room, d, e)
		}
	}
	for _, room := range []int{0, 1, 10, api.MaxDisk - 1, api.MaxDisk} {
		d := made(t, room)
		holds(t, fmt.Sprint("of ", room), d, "0 false")
		if s, ok := d.Read(""); s != "" || ok {
			t.Errorf("of %d: there is %q", room, s)
		}
		answers(t, "one byte too many", d.Append("a", strings.Repeat("x", room+1)), api.ErrFull)
		holds(t, "full", d, "0 false")
		answers(t, "all room", d.Append("a", strings.Repeat("x", room)), api.OK)
		answers(t, "one more", d.Append("a", "x"), api.ErrFull)
		if d.Used() != room {
			t.Errorf("of %d: %d used", room, d.Used())
		}
	}
}

func TestAppend(t *testing.T) {
	d := made(t, 6)
	answers(t, "a", d.Append("a", "ab"), api.OK)
	holds(t, "a", d, `2 false "a":"ab"`)
	answers(t, "a again", d.Append("a", "\x00\xff"), api.OK)
	answers(t, "b, nothing", d.Append("b", ""), api.OK)
	holds(t, "b", d, `4 false "a":"ab\x00\xff" "b":""`)
	answers(t, "too much to b", d.Append("b", "xyz"), api.ErrFull)
	answers(t, "too much to a", d.Append("a", "xyz"), api.ErrFull)
	answers(t, "too much to a file that is not there", d.Append("c", "xyz"), api.ErrFull)
	holds(t, "full", d, `4 false "a":"ab\x00\xff" "b":""`)
	answers(t, "the rest to b", d.Append("b", "xy"), api.OK)
	answers(t, "nothing, where there is no room", d.Append("c", ""), api.OK)
	holds(t, "all", d, `6 false "a":"ab\x00\xff" "b":"xy" "c":""`)
	holds(t, "none synced", d.Lost(0), `0 false "a":"" "b":"" "c":""`)
}

func TestRoomIsGivenBack(t *testing.T) {
	d := made(t, 4)
	answers(t, "a", d.Append("a", "abc"), api.OK)
	answers(t, "delete", d.Delete("a"), api.OK)
	answers(t, "b", d.Append("b", "wxyz"), api.OK)
	answers(t, "full", d.Append("b", "1"), api.ErrFull)
	answers(t, "c", d.Append("c", ""), api.OK)
	answers(t, "rename over b", d.Rename("c", "b"), api.OK)
	holds(t, "renamed", d, `0 false "b":""`)
	answers(t, "d", d.Append("d", "1234"), api.OK)
	answers(t, "rename to itself", d.Rename("d", "d"), api.OK)
	answers(t, "full still", d.Append("b", "1"), api.ErrFull)
	holds(t, "all", d, `4 false "b":"" "d":"1234"`)
}

func TestSync(t *testing.T) {
	d := filled(t)
	holds(t, "before", d.Lost(0), filledLost)
	answers(t, "none", d.Sync("n"), api.ErrNone)
	answers(t, "another", d.Sync("b"), api.OK)
	holds(t, "another", d.Lost(0), filledLost)
	answers(t, "a", d.Sync("a"), api.OK)
	answers(t, "a again", d.Sync("a"), api.OK)
	holds(t, "all synced", d.Lost(0), filledShown)
	answers(t, "more", d.Append("a", "def"), api.OK)
	holds(t, "more isn't synced", d.Lost(0), filledShown)
	holds(t, "nor is it lost", d, `6 false "a":"abcdef" "b":""`)
}

func TestRename(t *testing.T) {
	for to, want := range map[string][2]string{
		"n": {`3 false "b":"" "n":"abc"`, `2 false "b":"" "n":"ab"`},
		"b": {`3 false "b":"abc"`, `2 false "b":"ab"`},
		"a": {filledShown, filledLost},
		"":  {`3 false "":"abc" "b":""`, `2 false "":"ab" "b":""`},
	} {
		d := filled(t)
		answers(t, "to "+to, d.Rename("a", to), api.OK)
		holds(t, "to "+to, d, want[0])
		holds(t, "synced, to "+to, d.Lost(0), want[1])
	}
	d := filled(t)
	for _, to := range []string{"a", "b", "n", "m"} {
		answers(t, "none to "+to, d.Rename("n", to), api.ErrNone)
		holds(t, "none to "+to, d, filledShown)
	}
}

// TestRenameOverSynced: what was synced of the file that is gone counts for nothing.
func TestRenameOverSynced(t *testing.T) {
	d := made(t, 20)
	answers(t, "a", d.Append("a", "longer"), api.OK)
	answers(t, "sync", d.Sync("a"), api.OK)
	answers(t, "b", d.Append("b", "new"), api.OK)
	answers(t, "rename", d.Rename("b", "a"), api.OK)
	holds(t, "renamed", d, `3 false "a":"new"`)
	holds(t, "none synced", d.Lost(0), `0 false "a":""`)
	answers(t, "b anew", d.Append("b", "x"), api.OK)
	holds(t, "b is another file", d, `4 false "a":"new" "b":"x"`)
	answers(t, "sync b", d.Sync("b"), api.OK)
	holds(t, "b alone is synced", d.Lost(0), `1 false "a":"" "b":"x"`)
}

func TestDelete(t *testing.T) {
	d := filled(t)
	answers(t, "none", d.Delete("n"), api.ErrNone)
	holds(t, "none", d, filledShown)
	answers(t, "a", d.Delete("a"), api.OK)
	holds(t, "a", d, `0 false "b":""`)
	holds(t, "at once", d.Lost(9), `0 false "b":""`)
	answers(t, "a again", d.Delete("a"), api.ErrNone)
	answers(t, "sync", d.Sync("a"), api.ErrNone)
	answers(t, "rename", d.Rename("a", "b"), api.ErrNone)
	if s, ok := d.Read("a"); s != "" || ok {
		t.Errorf("there is %q", s)
	}
	answers(t, "a anew", d.Append("a", "xyz"), api.OK)
	holds(t, "begins empty", d, `3 false "a":"xyz" "b":""`)
	holds(t, "none synced", d.Lost(0), `0 false "a":"" "b":""`)
}

func TestRead(t *testing.T) {
	d := filled(t)
	for name, want := range map[string]string{"a": "abc", "b": ""} {
		if s, ok := d.Read(name); s != want || !ok {
			t.Errorf("%s: %q, %v", name, s, ok)
		}
	}
	for _, name := range []string{"", "n", "A", "a ", "ab"} {
		if s, ok := d.Read(name); s != "" || ok {
			t.Errorf("%s: %q, %v", name, s, ok)
		}
	}
	holds(t, "nothing begins by it", d, filledShown)
}

// TestNames: any text is a name, and they rise byte by byte.
func TestNames(t *testing.T) {
	want := []string{"", "\x00", "\x00\x00", "A", "B", "a", "a\x00", "aa", "ab", "b", "é", "€", "\xf0\x9d\x84\x9e", "\xff", "\xff\x00"}
	for range 20 {
		d := made(t, len(want))
		for i := range want {
			name := want[(i*4+1)%len(want)]
			answers(t, name, d.Append(name, "x"), api.OK)
		}
		if got := d.Names(); !slices.Equal(got, want) {
			t.Fatalf("%q", got)
		}
	}
	if got := made(t, 0).Names(); len(got) != 0 {
		t.Errorf("of no files: %q", got)
	}
}

// TestNamesAreNew: what is done to names that were told isn't seen on the disk.
func TestNamesAreNew(t *testing.T) {
	d := filled(t)
	names := d.Names()
	for i := range names {
		names[i] = "z"
	}
	_ = append(names[:0], "x", "y", "z")
	holds(t, "all", d, filledShown)
}

// TestReadIsNew: what was told stays as it was told.
func TestReadIsNew(t *testing.T) {
	d := made(t, 200)
	var told []string
	for i := range 100 {
		answers(t, "append", d.Append("a", string([]byte{byte(i)})), api.OK)
		s, _ := d.Read("a")
		told = append(told, s)
	}
	answers(t, "rename", d.Rename("a", "b"), api.OK)
	answers(t, "delete", d.Delete("b"), api.OK)
	for i, s := range told {
		if len(s) != i+1 || s[i] != byte(i) || !strings.HasPrefix(told[len(told)-1], s) {
			t.Errorf("behind %d bytes: %x", i, s)
		}
	}
}

// TestManySteps: neither many Appends nor many files make a step long.
func TestManySteps(t *testing.T) {
	d := made(t, api.MaxDisk)
	for i := range api.MaxDisk / 2 {
		if e := d.Append("long", "x"); e != api.OK {
			t.Fatalf("byte %d: %d", i, e)
		}
	}
	for i := range 50000 {
		if e := d.Append(fmt.Sprint(i), "y"); e != api.OK {
			t.Fatalf("file %d: %d", i, e)
		}
	}
	if d.Used() != api.MaxDisk/2+50000 || len(d.Names()) != 50001 {
		t.Error(d.Used(), len(d.Names()))
	}
	if s, _ := d.Read("long"); s != strings.Repeat("x", api.MaxDisk/2) {
		t.Error("another file")
	}
}

// P6.2

// TestArm: so many steps are done, whether they are such as do anything or not; the next one crashes.
func TestArm(t *testing.T) {
	for _, ahead := range steps() {
		for after := range 4 {
			d := filled(t)
			d.Arm(after, -1)
			for range after {
				if e := ahead.do(d); e == api.ErrCrash || d.Crashed() {
					t.Errorf("%s, %d ahead: crashed before", ahead.name, after)
				}
			}
			shown := show(d)
			answers(t, fmt.Sprint(ahead.name, ", ", after, " ahead"), ahead.do(d), api.ErrCrash)
			holds(t, ahead.name, d, strings.Replace(shown, "false", "true", 1))
		}
	}
}

// TestStepsAhead: a disk that is armed answers to the steps ahead of its crash as it does otherwise.
func TestStepsAhead(t *testing.T) {
	for _, ahead := range steps() {
		armed, other := filled(t), filled(t)
		armed.Arm(1, 2)
		answers(t, ahead.name, ahead.do(armed), ahead.do(other))
		holds(t, ahead.name, armed, show(other))
		holds(t, ahead.name+", synced", armed.Lost(0), show(other.Lost(0)))
	}
}

func TestArmForNever(t *testing.T) {
	for _, after := range []int{-1, -2, -100, math.MinInt, math.MaxInt} {
		d := made(t, api.MaxDisk)
		d.Arm(after, 1)
		for range 1000 {
			answers(t, fmt.Sprint("armed ", after), d.Append("a", "x"), api.OK)
		}
		if d.Crashed() || d.Used() != 1000 {
			t.Errorf("armed %d: %v, %d", after, d.Crashed(), d.Used())
		}
	}
}

// TestArmAnew: the last Arm holds.
func TestArmAnew(t *testing.T) {
	d := filled(t)
	d.Arm(0, 1)
	d.Arm(-1, 2)
	answers(t, "in none", d.Append("b", "x"), api.OK)
	d.Arm(5, 1)
	answers(t, "five ahead", d.Append("b", "y"), api.OK)
	d.Arm(1, 2)
	answers(t, "one ahead", d.Append("b", "z"), api.OK)
	answers(t, "crash", d.Append("b", "123"), api.ErrCrash)
	holds(t, "crashed", d, `8 true "a":"abc" "b":"xyz12"`)
}

// TestArmIsNoStep, nor is any call but those that are named so.
func TestArmIsNoStep(t *testing.T) {
	d := filled(t)
	d.Arm(1, 0)
	for range 5 {
		show(d)
		d.Wrecked()
		d.Lost(1)
	}
	answers(t, "one ahead", d.Sync("a"), api.OK)
	for range 5 {
		show(d)
		d.Wrecked()
		d.Lost(1)
	}
	answers(t, "crash", d.Sync("a"), api.ErrCrash)
}

// TestCrashInStep: nothing is done of any step but an Append.
func TestCrashInStep(t *testing.T) {
	for _, s := range steps() {
		for _, torn := range []int{math.MinInt, -1, 0, 1, 2, 3, 4, math.MaxInt} {
			d := filled(t)
			d.Arm(0, torn)
			what := fmt.Sprintf("%s, torn at %d", s.name, torn)
			answers(t, what, s.do(d), api.ErrCrash)
			part := "xyz"[:min(max(torn, 0), 3)]
			want, lost := crashShown, filledLost
			if s.name == "append" {
				want = fmt.Sprintf(`%d true "a":"abc%s" "b":""`, 3+len(part), part)
			}
			if s.name == "append to none" && part != "" {
				want = fmt.Sprintf(`%d true "a":"abc" "b":"" "n":"%s"`, 3+len(part), part)
				lost += ` "n":""`
			}
			holds(t, what, d, want)
			holds(t, what+", lost", d.Lost(0), lost)
			holds(t, what+", wrecked", d.Wrecked(), strings.Replace(want, "true", "false", 1))
		}
	}
}

// TestNoRoomInCrash: it is all of the text that has no room, though what is torn off of it would have.
func TestNoRoomInCrash(t *testing.T) {
	for size, want := range map[int]string{7: `5 true "a":"abc..." "b":""`, 8: crashShown} {
		d := filled(t)
		d.Arm(0, 2)
		answers(t, fmt.Sprint(size), d.Append("a", strings.Repeat(".", size)), api.ErrCrash)
		holds(t, fmt.Sprint(size), d, strings.Replace(want, "...", "..", 1))
	}
}

func TestCrash(t *testing.T) {
	d := filled(t)
	d.Crash()
	d.Crash()
	holds(t, "crashed", d, crashShown)
	for _, s := range steps() {
		for range 3 {
			answers(t, s.name, s.do(d), api.ErrCrash)
			holds(t, s.name, d, crashShown)
			holds(t, s.name+", synced", d.Lost(0), filledLost)
		}
	}
}

// TestArmOfCrashed: a disk that has crashed isn't mended by it, and a step tears nothing off.
func TestArmOfCrashed(t *testing.T) {
	for _, after := range []int{-1, 0, 1, 7} {
		d := filled(t)
		d.Arm(after, 3)
		d.Crash()
		d.Arm(after, 3)
		for _, s := range steps() {
			answers(t, s.name, s.do(d), api.ErrCrash)
			holds(t, s.name, d, crashShown)
		}
	}
}

// TestFound: what is found has not crashed, nor is armed; nothing of it is lost by another crash.
func TestFound(t *testing.T) {
	for name, prepare := range map[string]func(d *Disk){
		"running": func(d *Disk) {},
		"armed":   func(d *Disk) { d.Arm(0, 1) },
		"crashed": func(d *Disk) { d.Crash() },
		"both":    func(d *Disk) { d.Arm(0, 1); d.Crash() },
	} {
		d := filled(t)
		prepare(d)
		before := show(d)
		for way, found := range map[string]*Disk{"wrecked": d.Wrecked(), "lost": d.Lost(1)} {
			what := name + ", " + way
			holds(t, what, found, filledShown)
			holds(t, what+", then lost", found.Lost(0), filledShown)
			answers(t, what, found.Append("b", "1234567"), api.OK)
			answers(t, what+", full", found.Append("b", "8"), api.ErrFull)
			answers(t, what, found.Delete("a"), api.OK)
			holds(t, what+", changed", found, `7 false "b":"1234567"`)
			found.Arm(0, 0)
			answers(t, what+", armed", found.Sync("b"), api.ErrCrash)
		}
		holds(t, name+", as it was", d, before)
	}
}

// TestFoundIsNew: neither a disk nor what is found of it sees what is done to the other.
func TestFoundIsNew(t *testing.T) {
	d := made(t, 1000)
	for range 5 { // so that there is spare room behind the bytes
		answers(t, "a", d.Append("a", "abcdefghij"), api.OK)
	}
	answers(t, "sync", d.Sync("a"), api.OK)
	answers(t, "more", d.Append("a", "klm"), api.OK)
	synced := strings.Repeat("abcdefghij", 5)
	all := []*Disk{d, d.Wrecked(), d.Lost(0), d.Lost(2)}
	want := []string{synced + "klm", synced + "klm", synced, synced + "kl"}
	for i, x := range all {
		more := strings.Repeat(string([]byte{'0' + byte(i)}), 4)
		answers(t, "append", x.Append("a", more), api.OK)
		want[i] += more
	}
	for i, x := range all {
		if s, _ := x.Read("a"); s != want[i] || x.Used() != len(s) {
			t.Errorf("disk %d: %q, not %q", i, s, want[i])
		}
	}
	answers(t, "rename", all[1].Rename("a", "b"), api.OK)
	answers(t, "delete", all[2].Delete("a"), api.OK)
	if s, ok := d.Read("a"); s != want[0] || !ok {
		t.Errorf("of the first: %q, %v", s, ok)
	}
	holds(t, "synced of the first", d.Lost(0), fmt.Sprintf(`50 false "a":%q`, synced))
}

// TestRoomOfFound: it is that of the disk, not what it has.
func TestRoomOfFound(t *testing.T) {
	for _, room := range []int{0, 1, 5, api.MaxDisk} {
		for _, found := range []*Disk{made(t, room).Wrecked(), made(t, room).Lost(0), made(t, room).Lost(3).Wrecked()} {
			answers(t, "too much", found.Append("a", strings.Repeat("x", room+1)), api.ErrFull)
			answers(t, "all", found.Append("a", strings.Repeat("x", room)), api.OK)
		}
	}
}

// P6.3

func TestLost(t *testing.T) {
	d := made(t, 30)
	for i, e := range []api.Errno{
		d.Append("a", "abc"), d.Sync("a"), d.Append("a", "defg"),
		d.Append("b", "12"),
		d.Append("c", "xyz"), d.Sync("c"),
		d.Append("d", ""),
		d.Append("e", ""), d.Sync("e"), d.Append("e", "+-"),
	} {
		answers(t, fmt.Sprint("step ", i), e, api.OK)
	}
	none := `6 false "a":"abc" "b":"" "c":"xyz" "d":"" "e":""`
	all := `14 false "a":"abcdefg" "b":"12" "c":"xyz" "d":"" "e":"+-"`
	for keep, want := range map[int]string{
		math.MinInt: none, -7: none, -1: none, 0: none,
		1: `9 false "a":"abcd" "b":"1" "c":"xyz" "d":"" "e":"+"`,
		2: `12 false "a":"abcde" "b":"12" "c":"xyz" "d":"" "e":"+-"`,
		3: `13 false "a":"abcdef" "b":"12" "c":"xyz" "d":"" "e":"+-"`,
		4: all, 5: all, 30: all, api.MaxDisk: all, math.MaxInt - 1: all, math.MaxInt: all,
	} {
		holds(t, fmt.Sprint("keep ", keep), d.Lost(keep), want)
		holds(t, fmt.Sprint("keep ", keep, ", then lost"), d.Lost(keep).Lost(0), want)
	}
	holds(t, "wrecked", d.Wrecked(), all)
	holds(t, "as it was", d, all)
	holds(t, "as it was synced", d.Lost(0), none)
}

func TestLostOfFullDisk(t *testing.T) {
	d := made(t, api.MaxDisk)
	half := strings.Repeat("x", api.MaxDisk/2)
	for i, e := range []api.Errno{d.Append("a", half), d.Sync("a"), d.Append("a", half)} {
		answers(t, fmt.Sprint("step ", i), e, api.OK)
	}
	for keep, want := range map[int]int{0: api.MaxDisk / 2, 7: api.MaxDisk/2 + 7, api.MaxDisk: api.MaxDisk} {
		if got := d.Lost(keep).Used(); got != want {
			t.Errorf("keep %d: %d", keep, got)
		}
	}
	if got := d.Wrecked().Used(); got != api.MaxDisk {
		t.Errorf("wrecked: %d", got)
	}
}

// P6.4

// TestSyncedIsNotLost: behind a crash at any step, torn anywhere, with anything that isn't synced lost, and crashed
// again, the file has what was synced.
func TestSyncedIsNotLost(t *testing.T) {
	for after := range 8 {
		for torn := -1; torn < 5; torn++ {
			for keep := -1; keep < 5; keep++ {
				d := made(t, 30)
				d.Arm(after, torn)
				synced := map[string]string{}
				note := func(name, s string, es ...api.Errno) {
					if !slices.ContainsFunc(es, func(e api.Errno) bool { return e != api.OK }) {
						synced[name] = s
					}
				}
				note("a", "abc", d.Append("a", "abc"), d.Sync("a"))
				note("a", "abcdef", d.Append("a", "def"), d.Sync("a"))
				note("b", "1234", d.Append("b", "1234"), d.Sync("b"))
				d.Append("b", "5678")
				if d.Rename("b", "a") == api.OK {
					synced = map[string]string{"a": "1234"}
				}
				for name, want := range synced {
					for _, x := range []*Disk{d, d.Wrecked(), d.Lost(keep), d.Lost(keep).Lost(0), d.Wrecked().Lost(0)} {
						if s, ok := x.Read(name); !ok || !strings.HasPrefix(s, want) {
							t.Errorf("crash behind %d, torn at %d, keep %d: %s is %q, not %q", after, torn, keep, name, s, want)
						}
					}
				}
			}
		}
	}
}

// TestAgainstModel: many mixed steps, with crashes, and what is found behind them.
func TestAgainstModel(t *testing.T) {
	names := []string{"a", "b", "c", ""}
	for run := range 400 {
		seed := uint64(run)*0x9e3779b97f4a7c15 + 1
		pick := func(n int) int { return int(next(&seed) >> 33 % uint64(n)) }
		name := func() string { return names[pick(len(names))] }
		room := pick(60)
		d, m := made(t, room), &model{room: room, after: -2}
		for i := range 200 {
			what := fmt.Sprint("run ", run, ", step ", i)
			from, to, s := name(), name(), "abcdefghijklmnop"[:pick(17)]
			switch pick(12) {
			case 0, 1, 2, 3:
				answers(t, what+", append", d.Append(from, s), m.append(from, s))
			case 4, 5:
				answers(t, what+", sync", d.Sync(from), m.sync(from))
			case 6, 7:
				answers(t, what+", rename", d.Rename(from, to), m.rename(from, to))
			case 8:
				answers(t, what+", delete", d.Delete(from), m.delete(from))
			case 9:
				m.after, m.torn = pick(8)-2, pick(20)-2
				d.Arm(m.after, m.torn)
			case 10:
				keep := pick(20) - 2
				holds(t, what+", lost", d.Lost(keep), m.lost(keep).show())
				if d.Crashed() {
					d, m = d.Lost(keep), m.lost(keep)
				}
			case 11:
				holds(t, what+", wrecked", d.Wrecked(), m.lost(math.MaxInt).show())
				if d.Crashed() {
					d, m = d.Wrecked(), m.lost(math.MaxInt)
				}
			}
			holds(t, what, d, m.show())
			holds(t, what+", synced", d.Lost(0), m.lost(0).show())
			if t.Failed() {
				return
			}
		}
	}
}
