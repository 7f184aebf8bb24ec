package op

import (
	"fmt"
	"maps"
	"math/rand"
	"reflect"
	"slices"
	"strconv"
	"strings"
	"testing"
)

// edges are bytes on both sides of where the chapter's rules change.
const edges = "\x00\x0c\x5a\x5b\x5c\x5e\x5f\x60\x61\x62\x7f\x80\xfe\xff"

// short are all texts of up to so many of those bytes.
func short(most int) []string {
	out, last := []string{""}, []string{""}
	for range most {
		var next []string
		for _, s := range last {
			for i := range len(edges) {
				next = append(next, s+edges[i:i+1])
			}
		}
		out, last = append(out, next...), next
	}
	return out
}

// mixed are long texts: of any bytes, of those at the edges, and of many PUSH and JUMPDEST.
func mixed() []string {
	r := rand.New(rand.NewSource(12))
	var out []string
	for i := range 300 {
		s := make([]byte, r.Intn(400))
		for j := range s {
			switch i % 3 {
			case 0:
				s[j] = byte(r.Intn(256))
			case 1:
				s[j] = edges[r.Intn(len(edges))]
			case 2:
				s[j] = byte(0x5b + r.Intn(2)*r.Intn(0x26))
			}
		}
		out = append(out, string(s))
	}
	return out
}

// P12.1

func TestOf(t *testing.T) {
	many := 0
	for code, want := range told(t) {
		got, ok := Of(byte(code))
		if got != want || ok != (want.Name != "") {
			t.Errorf("%02x: %v, %v, not %v", code, got, ok, want)
		}
		if ok {
			many++
		}
	}
	if many != 144 {
		t.Errorf("%d codes", many)
	}
}

// TestOfNone: what is no code in the chapter, though some of it is one elsewhere, has no Info at all.
func TestOfNone(t *testing.T) {
	ranges := [][2]int{{0x0c, 0x0f}, {0x1e, 0x1f}, {0x21, 0x2f}, {0x49, 0x4f}, {0x5c, 0x5e}, {0xa5, 0xef}, {0xf6, 0xf9}, {0xfb, 0xfc}}
	many := 0
	for _, x := range ranges {
		for code := x[0]; code <= x[1]; code++ {
			many++
			if got, ok := Of(byte(code)); got != (Info{}) || ok {
				t.Errorf("%02x: %v, %v", code, got, ok)
			}
		}
	}
	if many != 256-144 {
		t.Errorf("%d codes that are none", many)
	}
}

// TestOfFamilies: what a family's number says.
func TestOfFamilies(t *testing.T) {
	for n := range 33 {
		gas := uint64(3)
		if n == 0 {
			gas = 2
		}
		if got, ok := Of(byte(0x5f + n)); !ok || got != (Info{"PUSH" + strconv.Itoa(n), gas, 0, 1}) {
			t.Errorf("PUSH%d: %v", n, got)
		}
	}
	for n := 1; n <= 16; n++ {
		if got, ok := Of(byte(0x7f + n)); !ok || got != (Info{"DUP" + strconv.Itoa(n), 3, n, n + 1}) {
			t.Errorf("DUP%d: %v", n, got)
		}
		if got, ok := Of(byte(0x8f + n)); !ok || got != (Info{"SWAP" + strconv.Itoa(n), 3, n + 1, n + 1}) {
			t.Errorf("SWAP%d: %v", n, got)
		}
	}
	for n := range 5 {
		if got, ok := Of(byte(0xa0 + n)); !ok || got != (Info{"LOG" + strconv.Itoa(n), 375, n + 2, 0}) {
			t.Errorf("LOG%d: %v", n, got)
		}
	}
}

// P12.2

func TestCode(t *testing.T) {
	for code, info := range told(t) {
		if info.Name == "" {
			continue
		}
		if got, ok := Code(info.Name); got != byte(code) || !ok {
			t.Errorf("%s: %02x, %v, not %02x", info.Name, got, ok, code)
		}
	}
}

func TestCodeNone(t *testing.T) {
	names := map[string]bool{}
	for _, info := range told(t) {
		names[info.Name] = info.Name != ""
	}
	wrong := []string{
		"", "?", "?0c", "?00", "\x00", " ", "0", "0x01", "01", "PUSH", "PUSH33", "PUSH00", "PUSH01", "PUSH-1", "PUSH1 0x", "PUSH1 0x01", "DUP", "DUP0", "DUP17",
		"SWAP", "SWAP0", "SWAP17", "LOG", "LOG5", "LOG-1", "SHA3", "KECCAK", "DIFFICULTY", "SUICIDE", "TLOAD", "TSTORE", "MCOPY", "BLOBHASH", "BLOBBASEFEE", "CREATE1",
		"CREATE3", "STOP STOP", "STOP,ADD", "INVALID\x00", "\xff", "ADD\n", strings.Repeat("ADD", 30000),
	}
	for name := range names {
		wrong = append(wrong, strings.ToLower(name), name+" ", " "+name, name+"\x00", name+"0")
		for i := range len(name) {
			wrong = append(wrong, name[:i], name[i:], name[:i]+"\xc3"+name[i+1:], name[:i]+"_"+name[i:])
		}
	}
	for _, name := range wrong {
		if names[name] {
			continue
		}
		if got, ok := Code(name); got != 0 || ok {
			t.Errorf("%.50q: %02x, %v", name, got, ok)
		}
	}
}

func TestPush(t *testing.T) {
	for code := range 256 {
		want, is := 0, code >= 0x5f && code <= 0x7f
		if is {
			want = code - 0x5f
		}
		if got, ok := Push(byte(code)); got != want || ok != is {
			t.Errorf("%02x: %d, %v", code, got, ok)
		}
	}
}

func TestJumpsExamples(t *testing.T) {
	for _, x := range []struct {
		code string
		want []int
	}{
		{"", nil},
		{"\x60\x5b\x5b", []int{2}},
		{"\x5b", []int{0}},
		{"\x5b\x5b\x5b", []int{0, 1, 2}},
		{"\x00\x5b", []int{1}}, // what is behind a STOP may be jumped to
		{"\x0c\x5b", []int{1}}, // and so may what is behind what is none
		{"\xfe\x5b\xff\x5b", []int{1, 3}},
		{"\x5f\x5b", []int{1}}, // a PUSH that takes none
		{"\x60", nil},
		{"\x60\x5b", nil},
		{"\x7f\x5b", nil}, // a PUSH that lacks some
		{"\x60\x60\x5b", []int{2}},
		{"\x60\x60\x60\x5b", nil},
		{"\x80\x5b", []int{1}},
		{"\x5a\x5c", nil},
	} {
		if got := Jumps(x.code); !slices.Equal(got, x.want) {
			t.Errorf("%x: %v, not %v", x.code, got, x.want)
		}
	}
}

// TestJumpsBehindEach: each code takes just its own bytes, however many are there.
func TestJumpsBehindEach(t *testing.T) {
	for code := range 256 {
		taken := 0
		if code > 0x5f && code < 0x80 {
			taken = code - 0x5f
		}
		for behind := range 40 {
			var want []int
			if code == 0x5b {
				want = append(want, 0)
			}
			for i := taken + 1; i <= behind; i++ {
				want = append(want, i)
			}
			if got := Jumps(string([]byte{byte(code)}) + strings.Repeat("\x5b", behind)); !slices.Equal(got, want) {
				t.Errorf("%02x and %d: %v, not %v", code, behind, got, want)
			}
		}
	}
}

func TestTextExamples(t *testing.T) {
	for _, x := range []struct {
		code string
		want []string
	}{
		{"", nil},
		{"\x60\x05\x60\x00\x55", []string{"PUSH1 0x05", "PUSH1 0x00", "SSTORE"}},
		{"\x5f\x5f", []string{"PUSH0", "PUSH0"}},
		{"\x60", []string{"PUSH1 0x"}},
		{"\x01\x7f", []string{"ADD", "PUSH32 0x"}},
		{"\x61\xab", []string{"PUSH2 0xab"}},
		{"\x61\x00\x00\x00", []string{"PUSH2 0x0000", "STOP"}},
		{"\x62\x0a\xBC\xDe\xfe", []string{"PUSH3 0x0abcde", "INVALID"}},
		{"\x0c\xef\xa5\xfb", []string{"?0c", "?ef", "?a5", "?fb"}},
		{"\xff\x00\x01", []string{"SELFDESTRUCT", "STOP", "ADD"}},
		{"\x80\x9f\xa4", []string{"DUP1", "SWAP16", "LOG4"}},
		{"\x7f" + strings.Repeat("\x5b", 32) + "\x5b", []string{"PUSH32 0x" + strings.Repeat("5b", 32), "JUMPDEST"}},
	} {
		if got := Text(x.code); !slices.Equal(got, x.want) {
			t.Errorf("%x: %q, not %q", x.code, got, x.want)
		}
	}
}

// TestTextOfEach: each code, alone and with a byte behind it.
func TestTextOfEach(t *testing.T) {
	for code, info := range told(t) {
		first := info.Name
		if first == "" {
			first = fmt.Sprintf("?%02x", code)
		}
		if code > 0x5f && code < 0x80 {
			first += " 0x"
		}
		if got := Text(string([]byte{byte(code)})); !slices.Equal(got, []string{first}) {
			t.Errorf("%02x: %q, not %q", code, got, first)
		}
		for _, behind := range []byte(edges) {
			got := Text(string([]byte{byte(code), behind}))
			if taken := fmt.Sprintf("%s%02x", first, behind); strings.Contains(first, " ") && !slices.Equal(got, []string{taken}) {
				t.Errorf("%02x %02x: %q, not %q", code, behind, got, taken)
			} else if !strings.Contains(first, " ") && (len(got) != 2 || got[0] != first) {
				t.Errorf("%02x %02x: %q, not %q ahead", code, behind, got, first)
			}
		}
	}
}

// TestByModel holds both walks against the chapter's words, byte by byte.
func TestByModel(t *testing.T) {
	m := modelOf(t)
	long := mixed()
	long = append(long, strings.Join(long, ""), strings.Repeat("\x5b", 70000), strings.Repeat("\x7f", 70000), strings.Repeat("\x60\x5b\x5b", 70000), strings.Repeat("\x0c", 70000))
	for _, code := range append(short(3), long...) {
		if got, want := Jumps(code), m.jumps(code); !slices.Equal(got, want) {
			t.Errorf("%.50x: %.100v, not %.100v", code, got, want)
		}
		if got, want := Text(code), m.text(code); !slices.Equal(got, want) {
			t.Errorf("%.50x: %.300q, not %.300q", code, got, want)
		}
	}
}

// TestTextBack: from the instructions comes back the code that they are of.
func TestTextBack(t *testing.T) {
	for _, code := range mixed() {
		var back []byte
		for _, line := range Text(code) {
			name, bytes, _ := strings.Cut(line, " 0x")
			if name[0] == '?' {
				bytes = name[1:]
			} else if b, ok := Code(name); ok {
				back = append(back, b)
			} else {
				t.Fatalf("%q is none", name)
			}
			for i := 0; i < len(bytes); i += 2 {
				back = append(back, byte(number(t, bytes[i:i+2], 16)))
			}
		}
		if string(back) != code {
			t.Errorf("%x, not %x", back, code)
		}
	}
}

// P12.3

func TestOneToOne(t *testing.T) {
	codes := map[string]byte{}
	for code := range 256 {
		info, ok := Of(byte(code))
		if !ok {
			continue
		}
		if info.Name == "" {
			t.Errorf("%02x has no name", code)
		}
		if other, twice := codes[info.Name]; twice {
			t.Errorf("%02x and %02x are both %s", other, code, info.Name)
		}
		codes[info.Name] = byte(code)
		if got, ok := Code(info.Name); got != byte(code) || !ok {
			t.Errorf("%02x is %s, which is %02x, %v", code, info.Name, got, ok)
		}
	}
	if len(codes) != 144 {
		t.Errorf("%d names", len(codes))
	}
}

// Rules that hold everywhere

// TestAnswersAreNew: what is done to an answer isn't seen in the next one, nor in what was handed in (P3).
func TestAnswersAreNew(t *testing.T) {
	code := "\x5b\x60\x05\x5b\x0c"
	jumps, lines := Jumps(code), Text(code)
	for i := range jumps[:cap(jumps)] {
		jumps[:cap(jumps)][i] = -1
	}
	for i := range lines[:cap(lines)] {
		lines[:cap(lines)][i] = "gone"
	}
	if got := Jumps(code); !slices.Equal(got, []int{0, 3}) {
		t.Error(got)
	}
	if got := Text(code); !slices.Equal(got, []string{"JUMPDEST", "PUSH1 0x05", "JUMPDEST", "?0c"}) {
		t.Error(got)
	}
	if code != "\x5b\x60\x05\x5b\x0c" {
		t.Errorf("%x", code)
	}
}

// TestAnswersAreAlike: the same is answered each time (P4), also if many ask at one time, as nothing is kept.
func TestAnswersAreAlike(t *testing.T) {
	infos := told(t)
	answers := func() []any {
		var out []any
		for code := 0; code < 256; code += 5 {
			info, ok := Of(byte(code))
			back, is := Code(infos[code].Name)
			out = append(out, info, ok, back, is)
		}
		return append(out, Text(edges+edges), Jumps(edges+edges))
	}
	want := answers()
	done := make(chan []any)
	for range 20 {
		go func() { done <- answers() }()
	}
	for range 20 {
		if got := <-done; !reflect.DeepEqual(got, want) {
			t.Errorf("%v, not %v", got, want)
		}
	}
}

// TestRowsAreApart: of the maps that stand behind the answers none has a code of another one's.
func TestRowsAreApart(t *testing.T) {
	sum := 0
	for half := range 256 {
		infos := row(byte(half))
		for _, code := range slices.Sorted(maps.Keys(infos)) {
			if half >= 16 || code>>4 != byte(half) {
				t.Errorf("%02x stands in row %x", code, half)
			}
		}
		sum += len(infos)
	}
	if sum != len(all()) || sum != 144 {
		t.Errorf("%d in the rows, %d in all", sum, len(all()))
	}
}

func BenchmarkOf(b *testing.B) {
	for b.Loop() {
		for code := range 256 {
			Of(byte(code))
		}
	}
}

func BenchmarkJumps(b *testing.B) {
	code := strings.Repeat("\x5b\x60\x5b\x01", 6144)
	for b.Loop() {
		Jumps(code)
	}
}

func BenchmarkText(b *testing.B) {
	code := strings.Repeat("\x5b\x60\x5b\x01", 6144)
	for b.Loop() {
		Text(code)
	}
}
