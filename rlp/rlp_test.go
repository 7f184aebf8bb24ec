package rlp

import (
	"fmt"
	"math/big"
	"reflect"
	"runtime/debug"
	"strings"
	"testing"

	"stithy/api"
)

// next goes through all numbers of 64 bits but 0, always in the same order.
func next(seed *uint64) uint64 {
	*seed ^= *seed << 13
	*seed ^= *seed >> 7
	*seed ^= *seed << 17
	return *seed
}

// bytesOf are so many bytes, of all kinds.
func bytesOf(size int) string {
	seed := uint64(size)*2 + 1
	out := make([]byte, size)
	for i := range out {
		out[i] = byte(next(&seed) >> 40)
	}
	return string(out)
}

// listOf is a list that is made without a call of the package.
func listOf(l ...Item) Item { return Item{List: true, L: l} }

// nested is i in so many lists.
func nested(i Item, lists int) Item {
	for range lists {
		i = Item{List: true, L: []Item{i}}
	}
	return i
}

// numbers are about the borders of bytes.
func numbers() []uint64 {
	out := []uint64{0, 1, 55, 56, 100, 1024, 1<<63 - 1, 1<<64 - 1}
	for bit := range 64 {
		out = append(out, 1<<bit, 1<<bit-1, 1<<bit+1)
	}
	return out
}

// sizes are about the borders of what stands ahead.
func sizes() []int {
	return []int{0, 1, 2, 3, 54, 55, 56, 57, 127, 128, 254, 255, 256, 257, 1000, 65535, 65536, 65537}
}

// texts are of all single bytes, and of many sizes.
func texts() []string {
	var out []string
	for b := range 256 {
		out = append(out, string([]byte{byte(b)}), string([]byte{byte(b), byte(b)}))
	}
	for _, size := range sizes() {
		out = append(out, strings.Repeat("\x00", size), bytesOf(size))
	}
	return out
}

// mixed are items of many forms: lists in lists, of nothing, of one, of many, with texts long and short.
func mixed(count int) []Item {
	seed := uint64(0x9e3779b97f4a7c15)
	text := func() Item {
		size := []uint64{0, 1, 1, 1, 2, 8, 20, 32, 53, 54, 55, 56, 57, 255, 256, 300}[next(&seed)%16]
		out := make([]byte, size)
		for i := range out {
			out[i] = byte(next(&seed) >> 40)
		}
		return Item{S: string(out)}
	}
	var item func(depth int) Item
	item = func(depth int) Item {
		if depth == 0 || next(&seed)%3 == 0 {
			return text()
		}
		out := Item{List: true}
		for range []uint64{0, 1, 1, 2, 3, 4, 7, 40}[next(&seed)%8] {
			out.L = append(out.L, item(depth-1))
		}
		return out
	}
	var out []Item
	for range count {
		out = append(out, item(int(next(&seed)%6)))
	}
	return out
}

// model is Encode by the chapter's words.
func model(i Item) string {
	body, kind := i.S, 128
	if i.List {
		var all strings.Builder
		for _, x := range i.L {
			all.WriteString(model(x))
		}
		body, kind = all.String(), 192
	} else if len(body) == 1 && body[0] < 128 {
		return body
	}
	return modelHead(kind, len(body)) + body
}

func modelHead(kind, size int) string {
	if size <= 55 {
		return string([]byte{byte(kind + size)})
	}
	number := big.NewInt(int64(size)).Bytes()
	return string([]byte{byte(kind + 55 + len(number))}) + string(number)
}

// modelShow is Show by the chapter's words.
func modelShow(i Item) string {
	if !i.List {
		return fmt.Sprintf(`"%x"`, i.S)
	}
	var all []string
	for _, x := range i.L {
		all = append(all, modelShow(x))
	}
	return "[" + strings.Join(all, " ") + "]"
}

// same tells whether both items are one in all fields; lists of nothing are, nil or empty.
func same(a, b Item) bool {
	if a.List != b.List || a.S != b.S || len(a.L) != len(b.L) {
		return false
	}
	for k := range a.L {
		if !same(a.L[k], b.L[k]) {
			return false
		}
	}
	return true
}

// short is a text to tell, without its middle, if that is long.
func short(s string) string {
	if len(s) > 80 {
		return fmt.Sprintf("%x..%x (%d bytes)", s[:40], s[len(s)-20:], len(s))
	}
	return fmt.Sprintf("%x", s)
}

// refused tells it, if s is not answered with that error, and nothing.
func refused(t *testing.T, s string, want api.Errno) {
	t.Helper()
	if i, e := Decode(s); e != want || !reflect.DeepEqual(i, Item{}) {
		t.Errorf("%s: error %d, not %d, with %s", short(s), e, want, short(Show(i)))
	}
}

// taken tells it, if s is not decoded as i.
func taken(t *testing.T, s string, i Item) {
	t.Helper()
	if got, e := Decode(s); e != api.OK || !same(got, i) {
		t.Errorf("%s: error %d, %s, not %s", short(s), e, short(Show(got)), short(Show(i)))
	}
}

// P4.1

func TestText(t *testing.T) {
	for _, s := range texts() {
		if got := Text(s); got.List || got.S != s || got.L != nil {
			t.Errorf("%s: %v", short(s), got.List)
		}
	}
}

func TestList(t *testing.T) {
	a, b := Item{S: "a"}, listOf(Item{S: "b"}, listOf())
	for _, l := range [][]Item{nil, {}, {a}, {b}, {a, b}, {b, a, a, b}, {listOf()}, {{}, {}}} {
		if got := List(l...); !same(got, Item{List: true, L: l}) {
			t.Errorf("%s: %s", modelShow(Item{List: true, L: l}), modelShow(got))
		}
	}
	for _, i := range mixed(300) {
		if got := List(i, a, i); !same(got, listOf(i, a, i)) {
			t.Errorf("%s: %s", short(modelShow(i)), short(modelShow(got)))
		}
	}
}

// TestListKeepsWhatAnItemHasBeside: a field that says nothing, of an item that is handed in, stays as it is.
func TestListKeepsWhatAnItemHasBeside(t *testing.T) {
	odd := []Item{{S: "a", L: []Item{{S: "b"}}}, {List: true, S: "c", L: []Item{{S: "d"}}}}
	if got := List(odd...); !same(got, Item{List: true, L: odd}) {
		t.Errorf("%v", got)
	}
}

// TestListIsNewMemory: what is changed behind it, in what was handed in or in its spare room, isn't seen in it.
func TestListIsNewMemory(t *testing.T) {
	inmost := append(make([]Item, 0, 4), Item{S: "a"})
	inner := append(make([]Item, 0, 4), Item{S: "b"}, Item{List: true, L: inmost})
	none := make([]Item, 0, 4)
	l := append(make([]Item, 0, 8), Item{S: "c"}, Item{List: true, L: inner}, Item{List: true, L: none})
	got := List(l...)
	want := `["63" ["62" ["61"]] []]`
	l[0].S, inner[0].S, inmost[0].S = "x", "x", "x"
	if s := modelShow(got); s != want {
		t.Errorf("%s, not %s", s, want)
	}
	inmost = append(inmost, Item{S: "e"})
	inner = append(inner, Item{S: "e"})
	none = append(none, Item{S: "e"})
	l = append(l, Item{S: "e"})
	for _, part := range [][]Item{got.L, got.L[1].L, got.L[1].L[1].L, got.L[2].L} {
		part = append(part, Item{S: "y"})
		part[0].S = "y"
	}
	for _, part := range [][]Item{inmost, inner, none, l} {
		if part[0].S == "y" || part[len(part)-1].S != "e" {
			t.Errorf("what was handed in is written into: %s", modelShow(listOf(part...)))
		}
	}
}

// TestListSharesNothingWithItself: one item that stands in it twice is two.
func TestListSharesNothingWithItself(t *testing.T) {
	x := listOf(listOf(Item{S: "a"}), Item{S: "b"})
	got := List(x, x)
	got.L[0].L[1].S = "c"
	got.L[1].L[0].L[0].S = "d"
	if s := modelShow(got); s != `[[["61"] "63"] [["64"] "62"]]` || modelShow(x) != `[["61"] "62"]` {
		t.Errorf("%s of %s", s, modelShow(x))
	}
}

func TestNumber(t *testing.T) {
	for _, n := range numbers() {
		want := string(new(big.Int).SetUint64(n).Bytes())
		if got := Number(n); !same(got, Item{S: want}) || got.L != nil {
			t.Errorf("%d: %x, not %x", n, got.S, want)
		}
	}
	for n, want := range map[uint64]string{0: "", 1: "\x01", 255: "\xff", 256: "\x01\x00", 1024: "\x04\x00", 1 << 56: "\x01\x00\x00\x00\x00\x00\x00\x00"} {
		if got := Number(n).S; got != want {
			t.Errorf("%d: %x, not %x", n, got, want)
		}
	}
}

func TestSmall(t *testing.T) {
	for _, n := range numbers() {
		if got, ok := Small(Number(n)); got != n || !ok {
			t.Errorf("%d: %d %v", n, got, ok)
		}
	}
	for s, want := range map[string]uint64{"": 0, "\x01": 1, "\x80": 128, "\x01\x00": 256, "\x12\x34\x56": 0x123456, "\x01\x00\x00\x00\x00\x00\x00\x02": 1<<56 + 2, "\xff\xff\xff\xff\xff\xff\xff\xff": 1<<64 - 1} {
		if got, ok := Small(Item{S: s}); got != want || !ok {
			t.Errorf("%x: %d %v", s, got, ok)
		}
		if got, ok := Small(Item{S: s, L: []Item{{S: "a"}}}); got != want || !ok {
			t.Errorf("%x, a text with a list beside it: %d %v", s, got, ok)
		}
	}
}

func TestSmallOfWhatIsNone(t *testing.T) {
	none := []Item{listOf(), listOf(Item{S: "\x01"}), {List: true, S: "\x01"}, {List: true, S: "\x01", L: []Item{{S: "\x01"}}}}
	for size := range 12 {
		none = append(none, Item{S: "\x00" + bytesOf(size)}, Item{S: "\x00" + strings.Repeat("\x00", size)})
	}
	for _, size := range []int{9, 10, 16, 32, 33, 100000} {
		none = append(none, Item{S: strings.Repeat("\x01", size)}, Item{S: strings.Repeat("\xff", size)})
	}
	for _, i := range none {
		if got, ok := Small(i); got != 0 || ok {
			t.Errorf("%s: %d %v", short(modelShow(i)), got, ok)
		}
	}
}

func TestShow(t *testing.T) {
	for want, i := range map[string]Item{
		`""`:                               {},
		`"000aa09fff"`:                     {S: "\x00\x0a\xa0\x9f\xff"},
		`"22"`:                             {S: `"`},
		`"5b5d20"`:                         {S: "[] "},
		`[]`:                               listOf(),
		`[""]`:                             listOf(Item{}),
		`[[]]`:                             listOf(listOf()),
		`["636174" "646f67"]`:              listOf(Item{S: "cat"}, Item{S: "dog"}),
		`[[] [] "" []]`:                    listOf(listOf(), listOf(), Item{}, listOf()),
		`[["61" "62"] "63" [["64"]] "65"]`: listOf(listOf(Item{S: "a"}, Item{S: "b"}), Item{S: "c"}, listOf(listOf(Item{S: "d"})), Item{S: "e"}),
	} {
		if got := Show(i); got != want {
			t.Errorf("%s, not %s", got, want)
		}
	}
	for _, s := range texts() {
		if got, want := Show(Item{S: s}), modelShow(Item{S: s}); got != want {
			t.Errorf("%s, not %s", short(got), short(want))
		}
	}
	for _, i := range mixed(500) {
		if got, want := Show(i), modelShow(i); got != want {
			t.Errorf("%s, not %s", short(got), short(want))
		}
	}
}

// P4.2

func TestEncode(t *testing.T) {
	lorem := "Lorem ipsum dolor sit amet, consectetur adipisicing elit"
	for want, i := range map[string]Item{
		"\xc8\x83cat\x83dog":               listOf(Item{S: "cat"}, Item{S: "dog"}),
		"\x83dog":                          {S: "dog"},
		"\x80":                             {},
		"\xc0":                             listOf(),
		"\x00":                             {S: "\x00"},
		"\x0f":                             {S: "\x0f"},
		"\x7f":                             {S: "\x7f"},
		"\x81\x80":                         {S: "\x80"},
		"\x81\xff":                         {S: "\xff"},
		"\x82\x00\x00":                     {S: "\x00\x00"},
		"\x82\x04\x00":                     {S: "\x04\x00"},
		"\xc1\x80":                         listOf(Item{}),
		"\xc3\x01\x02\x03":                 listOf(Item{S: "\x01"}, Item{S: "\x02"}, Item{S: "\x03"}),
		"\xc7\xc0\xc1\xc0\xc3\xc0\xc1\xc0": listOf(listOf(), listOf(listOf()), listOf(listOf(), listOf(listOf()))),
		"\xb8\x38" + lorem:                 {S: lorem},
	} {
		if got := Encode(i); got != want {
			t.Errorf("%x, not %x", got, want)
		}
	}
}

// TestEncodeSizes: texts and lists about the borders of what stands ahead.
func TestEncodeSizes(t *testing.T) {
	for size, want := range map[int]string{2: "\x82", 55: "\xb7", 56: "\xb8\x38", 255: "\xb8\xff", 256: "\xb9\x01\x00", 65535: "\xb9\xff\xff", 65536: "\xba\x01\x00\x00", 1<<24 - 1: "\xba\xff\xff\xff", 1 << 24: "\xbb\x01\x00\x00\x00"} {
		s := bytesOf(size)
		if got := Encode(Item{S: s}); got != want+s {
			t.Errorf("a text of %d bytes: %s", size, short(got))
		}
		ahead := string([]byte{want[0] + 64}) + want[1:]
		if got := Encode(Item{List: true, L: filling(size)}); got != ahead+filled(size) {
			t.Errorf("a list of %d bytes: %s", size, short(got))
		}
	}
	for _, s := range texts() {
		for _, i := range []Item{{S: s}, listOf(Item{S: s}), listOf(listOf(Item{S: s}, Item{S: s}), Item{S: "a"})} {
			if got, want := Encode(i), model(i); got != want {
				t.Errorf("%s: %s", short(s), short(got))
			}
		}
	}
}

// filling are items that have so many bytes, and filled are these bytes.
func filling(size int) []Item {
	most := repeated(Item{S: strings.Repeat("a", 1000)}, size/1003)
	return append(most, repeated(listOf(), size%1003)...)
}

func filled(size int) string {
	return strings.Repeat("\xb9\x03\xe8"+strings.Repeat("a", 1000), size/1003) + strings.Repeat("\xc0", size%1003)
}

func repeated(i Item, times int) []Item {
	out := make([]Item, times)
	for k := range out {
		out[k] = i
	}
	return out
}

func TestEncodeMixed(t *testing.T) {
	for _, i := range mixed(1000) {
		if got, want := Encode(i), model(i); got != want {
			t.Errorf("%s: %s, not %s", short(Show(i)), short(got), short(want))
		}
	}
}

// TestWhatAnItemHasBeside: S of a list, and L of a text, are none of it.
func TestWhatAnItemHasBeside(t *testing.T) {
	text, list := Item{S: "a", L: []Item{{S: "b"}, listOf()}}, Item{List: true, S: "a", L: []Item{{S: "b"}}}
	if got := Encode(listOf(text, list)); got != "\xc3a\xc1b" {
		t.Errorf("%x", got)
	}
	if got := Show(listOf(text, list)); got != `["61" ["62"]]` {
		t.Error(got)
	}
}

// TestWalkedItemsStay: what is handed in isn't written into.
func TestWalkedItemsStay(t *testing.T) {
	items, again := mixed(200), mixed(200)
	for k, i := range items {
		Encode(i)
		Show(i)
		List(i, i)
		Small(i)
		if !reflect.DeepEqual(i, again[k]) {
			t.Errorf("item %d", k)
		}
	}
}

// TestDeepItems: as deep as memory allows, with the stack of calls held low, and in no more than a few seconds.
func TestDeepItems(t *testing.T) {
	defer debug.SetMaxStack(debug.SetMaxStack(1 << 20))
	const depth = 1 << 20
	deep := nested(Item{S: "a"}, depth)
	want, size := make([]string, depth), 1
	for k := range depth {
		want[depth-1-k] = modelHead(192, size)
		size += len(want[depth-1-k])
	}
	if got := Encode(deep); got != strings.Join(want, "")+"a" {
		t.Errorf("Encode: %s", short(got))
	}
	if got := Show(deep); got != strings.Repeat("[", depth)+`"61"`+strings.Repeat("]", depth) {
		t.Errorf("Show: %s", short(got))
	}
	i := List(deep)
	for range depth + 1 {
		if !i.List || i.S != "" || len(i.L) != 1 {
			t.Fatalf("List: %v %x %d", i.List, i.S, len(i.L))
		}
		i = i.L[0]
	}
	if !same(i, Item{S: "a"}) {
		t.Errorf("List: within %x", i.S)
	}
	refused(t, strings.Join(want[depth-16000:], "")+"a", api.ErrForm)
}

// P4.3

func TestDecode(t *testing.T) {
	for _, s := range texts() {
		if i := (Item{S: s}); len(model(i)) <= api.MaxBytes {
			taken(t, model(i), i)
			taken(t, model(listOf(i)), listOf(i))
		}
	}
	for _, size := range []int{1, 54, 55, 56, 57, 255, 256, 257, 1000, 65533} {
		i := Item{List: true, L: repeated(listOf(), size)}
		taken(t, model(i), i)
	}
}

// TestDecodeLong: the length is looked at ahead of all else.
func TestDecodeLong(t *testing.T) {
	most := Item{S: bytesOf(api.MaxBytes - 3)}
	taken(t, model(most), most)
	more := Item{S: bytesOf(api.MaxBytes - 2)}
	refused(t, model(more), api.ErrLong)
	refused(t, model(listOf(more)), api.ErrLong)
	for _, first := range []string{"\x00", "\x80", "\xb8", "\xc1", "\xff"} {
		refused(t, strings.Repeat(first, api.MaxBytes), api.ErrForm)
		refused(t, strings.Repeat(first, api.MaxBytes+1), api.ErrLong)
		refused(t, strings.Repeat(first, 1<<20), api.ErrLong)
	}
}

// TestDecodeTooFewOrMore: each piece that an item's bytes begin with, and these with more behind.
func TestDecodeTooFewOrMore(t *testing.T) {
	refused(t, "", api.ErrForm)
	for _, i := range mixed(200) {
		s := model(i)
		if len(s) > 1500 {
			continue
		}
		for size := range s {
			refused(t, s[:size], api.ErrForm)
		}
		for _, more := range []string{"\x00", "\x80", "\xc0", s} {
			refused(t, s+more, api.ErrForm)
		}
	}
}

func TestDecodeWhatIsNone(t *testing.T) {
	long := strings.Repeat("a", 256)
	for _, s := range []string{
		"\x83do", "\xb7" + long[:54], "\xb8\x38" + long[:55], "\xb8", "\xb9", "\xb9\x01", "\xbf\x01",
		"\xc1", "\xc2\x80", "\xc2\x83a", "\xc2\x83abc", "\xc4\x83ab", "\xc2\xc2\x80", "\xc3\xc2\x80",
		"\xf7" + long[:54], "\xf8\x38" + long[:55], "\xf8", "\xf9", "\xf9\x01", "\xff\x01",
	} {
		refused(t, s, api.ErrForm)
		refused(t, modelHead(192, len(s))+s, api.ErrForm)
		refused(t, modelHead(192, len(s)+1)+"a"+s, api.ErrForm)
	}
	// More than one item is an item only within a list.
	for _, s := range []string{"ab", "\x83dogs", "\xb8\x38" + long[:57], "\xc0\xc0", "\xc1\x80\x80", "\xf8\x38" + long[:57]} {
		refused(t, s, api.ErrForm)
		if i, e := Decode(modelHead(192, len(s)) + s); e != api.OK || len(i.L) != 2 {
			t.Errorf("%s in a list: %d %s", short(s), e, short(Show(i)))
		}
	}
}

// TestDecodeByteOfItsOwn: a byte below 128 has none ahead; others, and the texts of more bytes, have one.
func TestDecodeByteOfItsOwn(t *testing.T) {
	for b := range 256 {
		s := string([]byte{byte(b)})
		if b < 128 {
			taken(t, s, Item{S: s})
			refused(t, "\x81"+s, api.ErrForm)
			refused(t, "\xc2\x81"+s, api.ErrForm)
			refused(t, "\xb8\x01"+s, api.ErrForm)
		} else {
			taken(t, "\x81"+s, Item{S: s})
			taken(t, "\xc2\x81"+s, listOf(Item{S: s}))
		}
		taken(t, "\x82"+s+s, Item{S: s + s})
	}
}

// TestDecodeNumberOfBytes: it stands in bytes of its own from 56 on alone, and never begins with 0.
func TestDecodeNumberOfBytes(t *testing.T) {
	for size := range 56 {
		refused(t, "\xb8"+string([]byte{byte(size)})+bytesOf(size), api.ErrForm)
		refused(t, "\xf8"+string([]byte{byte(size)})+strings.Repeat("\xc0", size), api.ErrForm)
	}
	taken(t, "\xb8\x38"+bytesOf(56), Item{S: bytesOf(56)})
	for _, size := range []int{0, 1, 55, 56, 57, 255, 256, 1000} {
		number := string(big.NewInt(int64(size)).Bytes())
		for len(number) < 8 {
			number = "\x00" + number
			refused(t, string([]byte{byte(183 + len(number))})+number+bytesOf(size), api.ErrForm)
			refused(t, string([]byte{byte(247 + len(number))})+number+strings.Repeat("\xc0", size), api.ErrForm)
		}
	}
}

// TestDecodeGreatNumberOfBytes: up to those that would wrap round, behind the bytes that tell them.
func TestDecodeGreatNumberOfBytes(t *testing.T) {
	for _, n := range append(numbers(), 1<<64-9, 1<<64-8, 1<<63+9, 1<<32+56, 1<<48+56, 1<<16+56) {
		number := string(new(big.Int).SetUint64(n).Bytes())
		if n < 300 {
			continue
		}
		for _, behind := range []string{"", bytesOf(9), bytesOf(56), bytesOf(298)} {
			refused(t, string([]byte{byte(183 + len(number))})+number+behind, api.ErrForm)
			refused(t, string([]byte{byte(247 + len(number))})+number+behind, api.ErrForm)
		}
	}
}

// TestDecodeInManyLists: 64 lists may be about a text, or a list, anywhere in it, and no more.
func TestDecodeInManyLists(t *testing.T) {
	for _, inmost := range []Item{{S: "a"}, {}, listOf(), {S: bytesOf(300)}} {
		for _, lists := range []int{0, 1, 2, 32, 63, 64} {
			i := nested(inmost, lists)
			taken(t, model(i), i)
		}
		for _, lists := range []int{65, 66, 67, 100, 1000} {
			refused(t, model(nested(inmost, lists)), api.ErrForm)
		}
		for _, beside := range []Item{{S: "b"}, listOf(), nested(Item{S: "b"}, 63)} {
			i := listOf(beside, nested(inmost, 63), beside)
			taken(t, model(i), i)
			refused(t, model(listOf(beside, nested(inmost, 64), beside)), api.ErrForm)
		}
	}
}

// TestDecodeAllShortTexts: of one byte 130 texts are items (128 bytes, the text and the list of nothing), of two 258
// (128 texts of one byte, and lists of the 130); and each of these is how its item is encoded.
func TestDecodeAllShortTexts(t *testing.T) {
	counts := [3]int{}
	for n := range 1 + 1<<8 + 1<<16 {
		s := ""
		if n > 1<<8 {
			s = string([]byte{byte((n - 257) >> 8), byte(n - 257)})
		} else if n > 0 {
			s = string([]byte{byte(n - 1)})
		}
		i, e := Decode(s)
		if e == api.OK && model(i) == s {
			counts[len(s)]++
		} else if e != api.ErrForm || !reflect.DeepEqual(i, Item{}) {
			t.Errorf("%x: %d %s", s, e, Show(i))
		}
	}
	if counts != [3]int{0, 130, 258} {
		t.Errorf("%v", counts)
	}
}

// TestDecodedSharesNothing: with what is decoded again, nor one list with another one.
func TestDecodedSharesNothing(t *testing.T) {
	s := model(listOf(listOf(Item{S: "a"}), listOf(Item{S: "b"}), listOf(), Item{S: "c"}))
	first, _ := Decode(s)
	again, _ := Decode(s)
	for k := range first.L {
		for m := range first.L[k].L {
			first.L[k].L[m].S = "x"
		}
		_ = append(first.L[k].L, Item{S: "y"}, Item{S: "y"}, Item{S: "y"})
	}
	if got := Show(first); got != `[["78"] ["78"] [] "63"]` {
		t.Error(got)
	}
	if got := Show(again); got != `[["61"] ["62"] [] "63"]` {
		t.Error(got)
	}
}

// P4.4

func TestEncodedIsDecoded(t *testing.T) {
	for _, i := range mixed(1000) {
		s := Encode(i)
		if len(s) <= api.MaxBytes {
			taken(t, s, i)
		}
	}
	for _, n := range numbers() {
		i, e := Decode(Encode(List(Number(n), Text("a"))))
		if e != api.OK || len(i.L) != 2 {
			t.Errorf("%d: %d", n, e)
		} else if got, ok := Small(i.L[0]); got != n || !ok {
			t.Errorf("%d: %d %v", n, got, ok)
		}
	}
}

// TestDecodedIsEncoded: bytes that are nearly an item's are none, or those of another one, that has no others.
func TestDecodedIsEncoded(t *testing.T) {
	seed, items := uint64(0x9e3779b97f4a7c15), 0
	for _, i := range mixed(1000) {
		s := []byte(Encode(i))
		for range 20 {
			near := append([]byte(nil), s...)
			at := next(&seed) % uint64(len(near))
			near[at] = byte(next(&seed) >> 40)
			got, e := Decode(string(near))
			if e == api.OK {
				items++
			}
			if e == api.OK && Encode(got) != string(near) || e != api.OK && e != api.ErrForm && len(near) <= api.MaxBytes {
				t.Errorf("%s: %d, again %s", short(string(near)), e, short(Encode(got)))
			}
		}
	}
	if items < 1000 {
		t.Errorf("only %d items", items)
	}
}

func BenchmarkEncode(b *testing.B) {
	i := listOf(repeated(listOf(Item{S: bytesOf(32)}, Item{S: bytesOf(20)}, Item{S: "a"}), 1000)...)
	b.SetBytes(int64(len(model(i))))
	for b.Loop() {
		Encode(i)
	}
}

func BenchmarkDecode(b *testing.B) {
	s := model(listOf(repeated(listOf(Item{S: bytesOf(32)}, Item{S: bytesOf(20)}, Item{S: "a"}), 1000)...))
	b.SetBytes(int64(len(s)))
	for b.Loop() {
		Decode(s)
	}
}
