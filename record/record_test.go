package record

import (
	"encoding/binary"
	"fmt"
	"hash/crc32"
	"maps"
	"math"
	"slices"
	"strings"
	"testing"
	"unsafe"

	"stithy/api"
	"stithy/disk"
)

// framed is a frame by the chapter's words, with the library's sum; of a text of any size.
func framed(s string) string {
	size := string(binary.BigEndian.AppendUint32(nil, uint32(len(s))))
	sum := crc32.ChecksumIEEE([]byte(size + s))
	return size + string(binary.BigEndian.AppendUint32(nil, sum)) + s
}

// unframed is Frames by the chapter's words: at each place every text is tried. It takes long where s is long.
func unframed(s string) (l []string, rest int) {
	for size := 0; rest+8+size <= len(s); size++ {
		text := s[rest+8 : rest+8+size]
		if strings.HasPrefix(s[rest:], framed(text)) {
			l, rest, size = append(l, text), rest+8+size, -1
		}
	}
	return l, rest
}

// unframes says that Frames tells these texts, and this rest.
func unframes(t *testing.T, what, s string, want []string, rest int) {
	t.Helper()
	if l, got := Frames(s); !slices.Equal(l, want) || got != rest {
		t.Errorf("%s: %.99q, %d, not %.99q, %d", what, l, got, want, rest)
	}
}

// mixed is so many bytes, of all kinds.
func mixed(size int) string {
	out := make([]byte, size)
	for i := range out {
		out[i] = byte(i*i>>3 + i*7)
	}
	return string(out)
}

// P7.1

func TestFrameByHand(t *testing.T) {
	for s, want := range map[string]string{
		"":                 "\x00\x00\x00\x00\x21\x44\xdf\x1c",
		"\x00":             "\x00\x00\x00\x01\xdf\x39\xc6\x5c\x00",
		"hi":               "\x00\x00\x00\x02\x2b\x0c\x4d\x9ehi",
		"é\xff":            "\x00\x00\x00\x03\x4e\xf7\xb0\xa4é\xff",
		"\x00\x00\x00\x00": "\x00\x00\x00\x04\x90\xa2\x79\xa9\x00\x00\x00\x00",
	} {
		if got, ok := Frame(s); got != want || !ok {
			t.Errorf("of %q: %x, %v, not %x", s, got, ok, want)
		}
		unframes(t, fmt.Sprintf("of %q", s), want, []string{s}, len(want))
	}
}

func TestFrameOfAllSizes(t *testing.T) {
	sizes := []int{api.MaxBytes - 1, api.MaxBytes}
	for size := range 600 {
		sizes = append(sizes, size)
	}
	for _, size := range sizes {
		s := mixed(size)
		got, ok := Frame(s)
		if got != framed(s) || !ok {
			t.Errorf("of %d bytes: %.20x, %v", size, got, ok)
		}
		unframes(t, fmt.Sprint(size, " bytes"), got+"x", []string{s}, size+8)
	}
}

func TestFrameOfTooLong(t *testing.T) {
	for _, size := range []int{api.MaxBytes + 1, 2 * api.MaxBytes, api.MaxDisk, 1 << 24} {
		if got, ok := Frame(mixed(size)); got != "" || ok {
			t.Errorf("of %d bytes: %.20x, %v", size, got, ok)
		}
	}
}

// TestFramesOfTooLong: what no text has a frame like is none, though its sum is right; also behind one.
func TestFramesOfTooLong(t *testing.T) {
	most := mixed(api.MaxBytes)
	for _, size := range []int{api.MaxBytes + 1, 2 * api.MaxBytes, 1 << 24} {
		s := framed(mixed(size))
		unframes(t, fmt.Sprint(size, " bytes"), s+framed("a"), nil, 0)
		unframes(t, fmt.Sprint("one ahead of ", size, " bytes"), framed(most)+s, []string{most}, api.MaxBytes+8)
	}
}

// pieces are frames, and what is none: each as it may stand behind another one.
func pieces() []string {
	hi := framed("hi")
	return []string{
		framed(""), framed("a"), hi, framed(framed("x")), framed("\x00\x00\x00"),
		hi[:1], hi[:7], hi[:8], hi[:9], hi[:8] + "ha", hi[:4] + "1234hi", "x",
		"\x00\x00\x00\x00\x00\x00\x00\x00", "\x00\x00\x00\x01" + hi[4:],
	}
}

func TestFramesOfPieces(t *testing.T) {
	texts := []string{""}
	for range 4 {
		for _, s := range texts {
			want, rest := unframed(s)
			unframes(t, fmt.Sprintf("of %x", s), s, want, rest)
		}
		var longer []string
		for _, s := range texts {
			for _, piece := range pieces() {
				longer = append(longer, s+piece)
			}
		}
		texts = longer
	}
}

func TestFramesCut(t *testing.T) {
	l := []string{"", "a", mixed(300), "", "last"}
	var all string
	var ends []int
	for _, s := range l {
		all += framed(s)
		ends = append(ends, len(all))
	}
	for cut := range len(all) + 1 {
		many, _ := slices.BinarySearch(ends, cut+1)
		unframes(t, fmt.Sprint("cut at ", cut), all[:cut], l[:many], slices.Max(append(ends[:many:many], 0)))
	}
}

// TestFramesOfTurnedBit: a frame of which one bit is turned is none, and none is told behind it.
func TestFramesOfTurnedBit(t *testing.T) {
	ahead, behind := framed("ahead"), framed("behind")
	for _, s := range []string{"", "\x00", "text", mixed(100)} {
		for bit := range 8 * len(framed(s)) {
			turned := []byte(framed(s))
			turned[bit/8] ^= 1 << (bit % 8)
			unframes(t, fmt.Sprintf("%.9q, bit %d", s, bit), ahead+string(turned)+behind, []string{"ahead"}, len(ahead))
		}
	}
}

// TestFramesOfOtherSums: the sum is of the size and the text, in this order, and both stand the highest byte first.
func TestFramesOfOtherSums(t *testing.T) {
	low := func(n uint32) string { return string(binary.LittleEndian.AppendUint32(nil, n)) }
	high := func(n uint32) string { return string(binary.BigEndian.AppendUint32(nil, n)) }
	sum := func(s string) uint32 { return crc32.ChecksumIEEE([]byte(s)) }
	size := high(5)
	for i, s := range []string{
		size + high(sum("texts")) + "texts",
		size + high(sum(size)) + "texts",
		size + high(sum("texts"+size)) + "texts",
		size + low(sum(size+"texts")) + "texts",
		size + high(^sum(size+"texts")) + "texts",
		low(5) + high(sum(low(5)+"texts")) + "texts",
		high(sum(size+"texts")) + size + "texts",
		size + "texts" + high(sum(size+"texts")),
	} {
		unframes(t, fmt.Sprint("number ", i), s, nil, 0)
	}
}

// TestFramesOfOtherSizes: a size that isn't that of what stands there, with the sum that it asks for.
func TestFramesOfOtherSizes(t *testing.T) {
	for _, size := range []uint32{0, 1, 2, 4, 5, 255, 256, api.MaxBytes, api.MaxBytes + 1, 1 << 16, 1 << 24, math.MaxInt32 - 7, math.MaxInt32, 1 << 31, math.MaxUint32 - 8, math.MaxUint32 - 4, math.MaxUint32} {
		head := string(binary.BigEndian.AppendUint32(nil, size))
		sum := binary.BigEndian.AppendUint32(nil, crc32.ChecksumIEEE([]byte(head+"abc")))
		unframes(t, fmt.Sprint("a size of ", size), head+string(sum)+"abc", nil, 0)
		unframes(t, fmt.Sprint("a size of ", size, " and no more"), head+string(sum), nil, 0)
		unframes(t, fmt.Sprint("a size of ", size, " alone"), head, nil, 0)
	}
}

func TestFramesOfNothing(t *testing.T) { unframes(t, "nothing", "", nil, 0) }

// TestFramesOfMany: neither many frames nor long ones take long.
func TestFramesOfMany(t *testing.T) {
	many := api.MaxDisk / 8
	unframes(t, "of nothing", strings.Repeat(framed(""), many), make([]string, many), api.MaxDisk)
	most := mixed(api.MaxBytes)
	l := slices.Repeat([]string{most}, 100)
	unframes(t, "of the most bytes", strings.Repeat(framed(most), 100), l, 100*len(framed(most)))
}

// TestFramesAreNew: what is told shares no memory with what was handed in, nor with itself.
func TestFramesAreNew(t *testing.T) {
	s := framed("one") + framed("two") + framed("one")
	l, _ := Frames(s)
	inside := func(s, all string) bool {
		from, place := uintptr(unsafe.Pointer(unsafe.StringData(all))), uintptr(unsafe.Pointer(unsafe.StringData(s)))
		return place >= from && place < from+uintptr(len(all))
	}
	for i, text := range l {
		if inside(text, s) {
			t.Errorf("text %d is a part of what was handed in", i)
		}
		for k, other := range l {
			if i != k && inside(text, other) {
				t.Errorf("text %d is a part of text %d", i, k)
			}
		}
	}
	l[0] = "other"
	_ = append(l[:1], "other")
	unframes(t, "again", s, []string{"one", "two", "one"}, len(s))
}

// What is done on a disk is held against steps that are written out.

// act is a step on a disk.
type act struct{ step, name, s string }

func (a act) on(d *disk.Disk) api.Errno {
	switch a.step {
	case "append":
		return d.Append(a.name, a.s)
	case "sync":
		return d.Sync(a.name)
	case "rename":
		return d.Rename(a.name, a.s)
	default:
		return d.Delete(a.name)
	}
}

// job is a call: on a disk where these acts are done, it does those of its own, up to the first error, and answers that;
// if there is none, e.
type job struct {
	name  string
	ahead []act
	call  func(d *disk.Disk) api.Errno
	acts  []act
	e     api.Errno
}

// begun is a disk of so much room on which what is ahead is done: false, if it has no room for that.
func begun(room int, ahead []act) (*disk.Disk, bool) {
	d, _ := disk.New(room)
	for _, a := range ahead {
		if a.on(d) != api.OK {
			return nil, false
		}
	}
	return d, true
}

// byHand does what the job is to do.
func (j job) byHand(d *disk.Disk) api.Errno {
	for _, a := range j.acts {
		if e := a.on(d); e != api.OK {
			return e
		}
	}
	return j.e
}

// files are all files of a disk.
func files(d *disk.Disk) map[string]string {
	out := map[string]string{}
	for _, name := range d.Names() {
		out[name], _ = d.Read(name)
	}
	return out
}

// likeByHand says that the job is done as by hand, with these many bytes of room, and a crash behind so many steps.
func (j job) likeByHand(t *testing.T, room, after, torn int) {
	d, fits := begun(room, j.ahead)
	other, _ := begun(room, j.ahead)
	if !fits {
		return
	}
	d.Arm(after, torn)
	other.Arm(after, torn)
	what := fmt.Sprintf("%s, room %d, crash behind %d, torn at %d", j.name, room, after, torn)
	if got, want := j.call(d), j.byHand(other); got != want {
		t.Errorf("%s: %d, not %d", what, got, want)
	}
	if got, want := files(d), files(other); !maps.Equal(got, want) {
		t.Errorf("%s: %.99q, not %.99q", what, got, want)
	}
	if got, want := files(d.Lost(0)), files(other.Lost(0)); !maps.Equal(got, want) {
		t.Errorf("%s: %.99q is synced, not %.99q", what, got, want)
	}
	if d.Crashed() != other.Crashed() {
		t.Errorf("%s: crashed is %v", what, d.Crashed())
	}
}

// sure holds jobs against what is done by hand: with too little room and enough, without a crash, and with one at each
// step, also behind the last one.
func sure(t *testing.T, jobs []job) {
	t.Helper()
	const most = 120
	for _, j := range jobs {
		if d, fits := begun(most, j.ahead); !fits || j.byHand(d) != j.e {
			t.Fatalf("%s: no room at all", j.name)
		}
		for room := range most + 1 {
			for after := -1; after < 7; after++ {
				for _, torn := range []int{-1, 0, 1, 8, 9, 1000} {
					j.likeByHand(t, room, after, torn)
				}
			}
			if t.Failed() {
				return
			}
		}
	}
}

// onCrashed says that jobs leave a disk alone that has crashed: ErrCrash, where there is a step to do.
func onCrashed(t *testing.T, jobs []job) {
	t.Helper()
	for _, j := range jobs {
		d, _ := begun(1000, j.ahead)
		d.Crash()
		before, want := files(d), j.e
		if len(j.acts) > 0 {
			want = api.ErrCrash
		}
		if got := j.call(d); got != want || !maps.Equal(files(d), before) {
			t.Errorf("%s, crashed already: %d, not %d; %q", j.name, got, want, files(d))
		}
	}
}

// written is how bytes come to stand in a file.
func written(name, s string) act { return act{"append", name, s} }

// P7.2

// addJob is Add to a file.
func addJob(name, to, s string, ahead ...act) job {
	call := func(d *disk.Disk) api.Errno { return Add(d, to, s) }
	return job{name, ahead, call, []act{{"append", to, framed(s)}, {"sync", to, ""}}, api.OK}
}

func addJobs() []job {
	return []job{
		addJob("add", "log", "text"),
		addJob("add nothing", "log", ""),
		addJob("add to a file without a name", "", "text"),
		addJob("add to a file of frames", "log", "c", written("log", framed("a")+framed("b")), act{"sync", "log", ""}),
		addJob("add to an empty file", "log", "c", written("log", "")),
		addJob("add behind what is no frame", "log", "\x00\xff", written("log", "junk")),
		addJob("add beside others", "log", "text", written("log.new", "new"), written("a", "other")),
		addJob("add to a file named so", "log.new", "text", written("log", "a"), written("log.new", "b")),
	}
}

func TestAdd(t *testing.T) { sure(t, addJobs()) }

func TestAddToCrashed(t *testing.T) { onCrashed(t, addJobs()) }

// long are jobs of a text that has no frame: on any disk they do nothing.
func long(name string, call func(d *disk.Disk, name, s string) api.Errno) []job {
	ahead := []act{written("log", framed("a")), written("log.new", "b")}
	var jobs []job
	for _, size := range []int{api.MaxBytes + 1, api.MaxDisk, 1 << 24} {
		s := mixed(size)
		do := func(d *disk.Disk) api.Errno { return call(d, "log", s) }
		jobs = append(jobs, job{fmt.Sprint(name, " of ", size), ahead, do, nil, api.ErrLong})
	}
	return jobs
}

func TestAddOfTooLong(t *testing.T) {
	sure(t, long("add", Add))
	onCrashed(t, long("add", Add))
}

// TestAddTillFull: the most bytes that may be framed are, again and again.
func TestAddTillFull(t *testing.T) {
	d, _ := disk.New(api.MaxDisk)
	s := mixed(api.MaxBytes)
	var want []string
	for range 15 {
		if e := Add(d, "log", s); e != api.OK {
			t.Errorf("behind %d: %d", len(want), e)
		}
		want = append(want, s)
	}
	if e := Add(d, "log", s); e != api.ErrFull {
		t.Errorf("one more: %d", e)
	}
	if !slices.Equal(All(d, "log"), want) || !slices.Equal(All(d.Lost(0), "log"), want) {
		t.Error("other texts")
	}
}

func TestAll(t *testing.T) {
	for s, want := range map[string][]string{
		"":                                     nil,
		"junk":                                 nil,
		framed(""):                             {""},
		framed("a") + framed("") + framed("b"): {"a", "", "b"},
		framed("a") + framed("b")[:8]:          {"a"},
		framed("a") + "junk" + framed("b"):     {"a"},
		"junk" + framed("b"):                   nil,
		framed(mixed(api.MaxBytes)) + "x":      {mixed(api.MaxBytes)},
		framed("a") + framed(mixed(api.MaxBytes+1)): {"a"},
	} {
		d, _ := begun(api.MaxDisk, []act{written("log", s), written("log.new", framed("new")), written("", framed("other"))})
		d.Arm(0, 0)
		for _, x := range []*disk.Disk{d, d.Wrecked()} {
			if got := All(x, "log"); !slices.Equal(got, want) {
				t.Errorf("of %.99q: %.99q, not %.99q", s, got, want)
			}
		}
		if d.Crashed() || len(d.Names()) != 3 {
			t.Errorf("of %.99q: something was done", s)
		}
		d.Crash()
		if got := All(d, "log"); !slices.Equal(got, want) {
			t.Errorf("of %.99q, crashed: %.99q, not %.99q", s, got, want)
		}
	}
}

func TestAllOfNoFile(t *testing.T) {
	d, _ := begun(100, []act{written("log.new", framed("new"))})
	if got := All(d, "log"); len(got) != 0 || len(d.Names()) != 1 {
		t.Errorf("%q, %q", got, d.Names())
	}
}

// mendJob is Mend of a file of these bytes, and of others beside it.
func mendJob(name, of, s string, acts []act, others ...act) job {
	call := func(d *disk.Disk) api.Errno { return Mend(d, of) }
	return job{name, append([]act{written(of, s)}, others...), call, acts, api.OK}
}

// cutTo is what Mend does to the file log, if these bytes are its frames.
func cutTo(s string) []act {
	return []act{{"append", "log.new", s}, {"sync", "log.new", ""}, {"rename", "log.new", "log"}}
}

func mendJobs() []job {
	a, b := framed("a"), framed("")
	fresh := written("log.new", "n")
	gone, drop := act{"delete", "log.new", ""}, act{"delete", "log", ""}
	return []job{
		mendJob("mend nothing", "log", "", nil),
		mendJob("mend frames", "log", a+b, nil),
		mendJob("mend frames that are synced", "log", a+b, nil, act{"sync", "log", ""}),
		mendJob("mend frames, beside a new file", "log", a, nil, fresh),
		mendJob("mend nothing, beside a new file", "log", "", nil, fresh),
		{"mend a file that is not there", []act{fresh}, func(d *disk.Disk) api.Errno { return Mend(d, "log") }, nil, api.OK},
		mendJob("mend a torn head", "log", a+b[:7], cutTo(a)),
		mendJob("mend a torn text", "log", b+a+a[:8], cutTo(b+a)),
		mendJob("mend one byte", "log", a+"x", cutTo(a)),
		mendJob("mend what is synced", "log", a+"x", cutTo(a), act{"sync", "log", ""}),
		mendJob("mend a broken frame ahead of a whole one", "log", a+b[:7]+"x"+a, cutTo(a)),
		mendJob("mend beside a new file", "log", a+"x", append([]act{gone}, cutTo(a)...), fresh),
		mendJob("mend beside an empty new file", "log", a+"x", append([]act{gone}, cutTo(a)...), written("log.new", "")),
		mendJob("mend beside a new file of frames", "log", a+"x", append([]act{gone}, cutTo(a)...), written("log.new", a+b)),
		mendJob("mend beside others", "log", a+"x", cutTo(a), written("new", "n"), written("", "m"), written(".new", "l")),
		mendJob("mend what is no frame", "log", "x", []act{drop}),
		mendJob("mend a torn frame", "log", a[:8], []act{drop}),
		mendJob("mend a broken frame, and a whole one", "log", "x"+a, []act{drop}, act{"sync", "log", ""}),
		mendJob("mend what is no frame, beside a new file", "log", "x", []act{gone, drop}, fresh),
		mendJob("mend what is no frame, beside frames", "log", "x", []act{gone, drop}, written("log.new", a), act{"sync", "log.new", ""}),
		mendJob("mend a file without a name", "", a+"x", []act{{"append", ".new", a}, {"sync", ".new", ""}, {"rename", ".new", ""}}),
		mendJob("mend a new file", "a.new", a+"x", []act{{"append", "a.new.new", a}, {"sync", "a.new.new", ""}, {"rename", "a.new.new", "a.new"}}, written("a", "y")),
	}
}

func TestMend(t *testing.T) { sure(t, mendJobs()) }

func TestMendOfCrashed(t *testing.T) { onCrashed(t, mendJobs()) }

// TestMendOfLong: long files too; a frame that may not be goes, like any bytes that are none.
func TestMendOfLong(t *testing.T) {
	most, more := framed(mixed(api.MaxBytes)), framed(mixed(api.MaxBytes+1))
	for _, j := range []job{
		mendJob("mend long frames", "log", strings.Repeat(most, 15), nil),
		mendJob("mend behind long frames", "log", strings.Repeat(most, 7)+most[:9999], cutTo(strings.Repeat(most, 7))),
		mendJob("mend a frame too long", "log", more, []act{{"delete", "log", ""}}),
		mendJob("mend behind a frame too long", "log", framed("a")+more+framed("b"), cutTo(framed("a"))),
		mendJob("mend where there is no room", "log", strings.Repeat(most, 9)+"x", append([]act{{"delete", "log.new", ""}}, cutTo(strings.Repeat(most, 9))...), written("log.new", "n")),
	} {
		for after := range 6 {
			j.likeByHand(t, api.MaxDisk, after, 7)
		}
	}
}

// TestMendAfterCrash: behind a crash in Add, and others while it is mended, what was added is there; of the last text
// all, or nothing; and it is added to again.
func TestMendAfterCrash(t *testing.T) {
	for after := range 2 {
		for _, torn := range []int{0, 1, 8, 10, 11} {
			for _, keep := range []int{0, 1, 8, 10, 11} {
				d, _ := disk.New(1000)
				Add(d, "log", "a")
				Add(d, "log", "bb")
				d.Arm(after, torn)
				if e := Add(d, "log", "ccc"); e != api.ErrCrash {
					t.Errorf("add: %d", e)
				}
				want := []string{"a", "bb"}
				if keep >= 11 && (after == 1 || torn >= 11) {
					want = append(want, "ccc")
				}
				mendedAnyhow(t, d.Lost(keep), want)
			}
		}
	}
}

// mendedAnyhow says that a disk's log has these texts when it is mended, with a crash at any step of that, too.
func mendedAnyhow(t *testing.T, d *disk.Disk, want []string) {
	t.Helper()
	for after := range 4 {
		for torn := range 20 {
			for _, keep := range []int{0, torn / 2, 100} {
				x := d.Wrecked()
				x.Arm(after, torn)
				if e := Mend(x, "log"); x.Crashed() != (e == api.ErrCrash) || !x.Crashed() && e != api.OK {
					t.Errorf("crash behind %d, torn at %d: %d", after, torn, e)
				}
				y := x.Lost(keep)
				if got := All(y, "log"); !slices.Equal(got, want) {
					t.Errorf("crash behind %d, torn at %d, keep %d: %q, not %q", after, torn, keep, got, want)
				}
				if e := Mend(y, "log"); e != api.OK {
					t.Errorf("mend again: %d", e)
				}
				if e := Add(y, "log", "last"); e != api.OK {
					t.Errorf("add: %d", e)
				}
				if got := All(y.Lost(0), "log"); !slices.Equal(got, append(want[:len(want):len(want)], "last")) {
					t.Errorf("crash behind %d, torn at %d, keep %d: %q is there in the end", after, torn, keep, got)
				}
			}
		}
	}
}

// P7.3

// replaceJob is Replace of a file; the new file stands beside it, or it does not.
func replaceJob(name, of, s string, beside bool, ahead ...act) job {
	fresh := of + ".new"
	acts := []act{{"append", fresh, framed(s)}, {"sync", fresh, ""}, {"rename", fresh, of}}
	if beside {
		acts = append([]act{{"delete", fresh, ""}}, acts...)
	}
	call := func(d *disk.Disk) api.Errno { return Replace(d, of, s) }
	return job{name, ahead, call, acts, api.OK}
}

func replaceJobs() []job {
	old := written("log", framed("old"))
	return []job{
		replaceJob("replace none", "log", "text", false),
		replaceJob("replace by nothing", "log", "", false, old),
		replaceJob("replace an old text", "log", "text", false, old, act{"sync", "log", ""}),
		replaceJob("replace a text by itself", "log", "old", false, old),
		replaceJob("replace what is no frame", "log", "text", false, written("log", "junk")),
		replaceJob("replace an empty file", "log", "text", false, written("log", "")),
		replaceJob("replace frames", "log", "text", false, written("log", framed("a")+framed("b"))),
		replaceJob("replace beside a new file", "log", "text", true, old, written("log.new", "n"), act{"sync", "log.new", ""}),
		replaceJob("replace beside an empty new file", "log", "text", true, old, written("log.new", "")),
		replaceJob("replace beside the new file alone", "log", "text", true, written("log.new", framed("text"))),
		replaceJob("replace beside others", "log", "text", false, old, written("", "a"), written(".new", "b"), written("new", "c")),
		replaceJob("replace a file without a name", "", "text", true, written("", framed("old")), written(".new", "b")),
		replaceJob("replace a new file", "a.new", "text", false, written("a", "x"), written("a.new", "y")),
	}
}

func TestReplace(t *testing.T) { sure(t, replaceJobs()) }

func TestReplaceOnCrashed(t *testing.T) { onCrashed(t, replaceJobs()) }

func TestReplaceByTooLong(t *testing.T) {
	sure(t, long("replace", Replace))
	onCrashed(t, long("replace", Replace))
}

func TestReplaceByLongest(t *testing.T) {
	d, _ := disk.New(2 * (api.MaxBytes + 8))
	for i := range 3 {
		s := mixed(api.MaxBytes - i)
		if e := Replace(d, "state", s); e != api.OK {
			t.Errorf("replace by %d bytes: %d", len(s), e)
		}
		if got, ok := Whole(d.Lost(0), "state"); got != s || !ok || len(d.Names()) != 1 {
			t.Errorf("replaced by %d bytes: %d bytes, %v, %q", len(s), len(got), ok, d.Names())
		}
	}
}

func TestWhole(t *testing.T) {
	for s, want := range map[string]string{
		framed(""): "", framed("a"): "a", framed(framed("a")): framed("a"),
		framed(mixed(api.MaxBytes)): mixed(api.MaxBytes),
	} {
		d, _ := begun(api.MaxDisk, []act{written("state", s), written("state.new", "n"), written("", framed("other"))})
		d.Arm(0, 0)
		if got, ok := Whole(d, "state"); got != want || !ok || d.Crashed() {
			t.Errorf("of %.20q: %.20q, %v", s, got, ok)
		}
		d.Crash()
		if got, ok := Whole(d, "state"); got != want || !ok {
			t.Errorf("of %.20q, crashed: %.20q, %v", s, got, ok)
		}
	}
}

func TestWholeOfOthers(t *testing.T) {
	a, none := framed("a"), framed("")
	for _, s := range []string{
		"", "x", "\x00\x00\x00\x00\x00\x00\x00\x00", none[:7], a[:8], a + "x", a + a, none + none, a + none, none + a,
		a + a[:8], "x" + a, a[:8] + "b", framed(mixed(api.MaxBytes + 1)),
	} {
		d, _ := begun(api.MaxDisk, []act{written("state", s), written("state.new", a)})
		if got, ok := Whole(d, "state"); got != "" || ok {
			t.Errorf("of %.20q: %.20q, %v", s, got, ok)
		}
		if got, ok := Whole(d, "none"); got != "" || ok {
			t.Errorf("of a file that is not there: %q, %v", got, ok)
		}
	}
}

// P7.4

// TestOldOrNew: behind a crash anywhere in Replace, with anything lost, and others while it is done anew, there is what
// was there, or what was to be, and no third; the new one, if it was told ok.
func TestOldOrNew(t *testing.T) {
	for _, fresh := range []string{"", "torn", framed("third")} {
		d, _ := disk.New(200)
		Replace(d, "state", "old text")
		if fresh != "" {
			d.Append("state.new", fresh)
		}
		for after := range 5 {
			for torn := -1; torn < 20; torn++ {
				for _, x := range crashedIn(t, d, "new", after, torn, "old text") {
					old, _ := Whole(x, "state")
					for again := range 5 {
						crashedIn(t, x, "newer", again, torn, old)
					}
				}
			}
		}
	}
}

// crashedIn are the disks that are found behind a Replace by s, with a crash at that step, where old stood; each is held
// against what the promise asks.
func crashedIn(t *testing.T, d *disk.Disk, s string, after, torn int, old string) []*disk.Disk {
	t.Helper()
	x := d.Wrecked()
	x.Arm(after, torn)
	e := Replace(x, "state", s)
	if x.Crashed() != (e == api.ErrCrash) || !x.Crashed() && e != api.OK {
		t.Errorf("crash behind %d, torn at %d: %d", after, torn, e)
	}
	found := []*disk.Disk{x.Wrecked()}
	for _, keep := range []int{-1, 0, 1, 7, 8, 10, 11, 100} {
		found = append(found, x.Lost(keep))
	}
	for i, y := range found {
		got, ok := Whole(y, "state")
		if !ok || got != s && (got != old || e == api.OK) {
			t.Errorf("crash behind %d, torn at %d, found %d: %q, %v", after, torn, i, got, ok)
		}
	}
	return found
}

// TestNoneOrNew: where nothing was there, it is nothing or the new text.
func TestNoneOrNew(t *testing.T) {
	for after := range 4 {
		for torn := range 12 {
			for keep := range 12 {
				d, _ := disk.New(100)
				d.Arm(after, torn)
				e := Replace(d, "state", "new")
				got, ok := Whole(d.Lost(keep), "state")
				if ok != (e == api.OK) || ok && got != "new" {
					t.Errorf("crash behind %d, torn at %d, keep %d: %d, %q, %v", after, torn, keep, e, got, ok)
				}
			}
		}
	}
}
