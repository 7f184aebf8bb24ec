package fork

import (
	"fmt"
	"maps"
	"math"
	"slices"
	"strings"
	"testing"
	"unsafe"

	"stithy/api"
	"stithy/disk"
	"stithy/record"
	"stithy/rlp"
	"stithy/wire"
)

const (
	alice = "aaaaaaaaaaaaaaaaaaaa"
	bob   = "bbbbbbbbbbbbbbbbbbbb"
	zero  = "\x00\x00\x00\x00\x00\x00\x00\x00\x00\x00\x00\x00\x00\x00\x00\x00\x00\x00\x00\x00"
	cache = "cache"
)

// rich and seven are an account and a value that have something in them.
var (
	rich  = api.Account{Nonce: 3, Balance: api.Word{A: 1, D: 9}, Code: "code"}
	seven = api.Word{B: 2, D: 7}
)

// mixed is so many bytes, of all kinds.
func mixed(size int) string {
	out := make([]byte, size)
	for i := range out {
		out[i] = byte(i*i>>3 + i*7)
	}
	return string(out)
}

// ofWhom and ofWhat are asks, for an account and for a slot's value.
func ofWhom(id uint64, addr string) wire.Ask { return wire.Ask{ID: id, Addr: addr, Kind: 1} }

func ofWhat(id uint64, addr string, slot api.Word) wire.Ask {
	return wire.Ask{ID: id, Addr: addr, Kind: 2, Slot: slot}
}

// asking is an ask's bytes, and account and value those of replies: the test is wrong, if there are none.
func asking(a wire.Ask) string { return sure(wire.PutAsk(a)) }

func account(id uint64, a api.Account) string {
	return sure(wire.PutReply(1, wire.Reply{ID: id, Account: a}))
}

func value(id uint64, v api.Word) string { return sure(wire.PutReply(2, wire.Reply{ID: id, Value: v})) }

func sure(s string, ok bool) string {
	if !ok {
		panic("not put")
	}
	return s
}

// paired are two texts as they stand in a cache.
func paired(one, two string) string { return rlp.Encode(rlp.List(rlp.Text(one), rlp.Text(two))) }

// accountOf and valueOf are what stands in a cache of an account, and of a slot's value.
func accountOf(addr string, a api.Account) string {
	return paired(asking(ofWhom(0, addr)), account(0, a))
}

func valueOf(addr string, slot, v api.Word) string {
	return paired(asking(ofWhat(0, addr, slot)), value(0, v))
}

// framed are the frames of texts.
func framed(l ...string) (all string) {
	for _, s := range l {
		all += sure(record.Frame(s))
	}
	return all
}

// room is a disk of so many bytes, with these in the cache: synced, if there are any.
func room(t *testing.T, size int, of string) *disk.Disk {
	t.Helper()
	d, e := disk.New(size)
	if e == api.OK && of != "" {
		e = d.Append(cache, of) + d.Sync(cache)
	}
	if e != api.OK {
		t.Fatalf("a disk of %d: %d", size, e)
	}
	return d
}

// empty is a client over a new disk, of so many replies.
func empty(t *testing.T, replies ...string) (*Client, *disk.Disk) {
	t.Helper()
	d := room(t, api.MaxDisk, "")
	c := New(d, cache)
	c.Script(replies)
	return c, d
}

// files are all files of a disk.
func files(d *disk.Disk) map[string]string {
	out := map[string]string{}
	for _, name := range d.Names() {
		out[name], _ = d.Read(name)
	}
	return out
}

// holds says that all files of a disk are the cache, with frames of these texts, and that they are synced.
func holds(t *testing.T, what string, d *disk.Disk, l ...string) {
	t.Helper()
	want := map[string]string{}
	if len(l) > 0 {
		want[cache] = framed(l...)
	}
	if got := files(d); !maps.Equal(got, want) {
		t.Errorf("%s: %.300q, not %.300q", what, got, want)
	}
	if got := files(d.Lost(0)); !maps.Equal(got, want) {
		t.Errorf("%s: %.300q is synced, not %.300q", what, got, want)
	}
}

// shows says how many asks were asked, how many are known, and how many replies will come.
func shows(t *testing.T, what string, c *Client, asked, known, left int) {
	t.Helper()
	if got := [...]int{len(c.Asked()), c.Known(), c.Left()}; got != [...]int{asked, known, left} {
		t.Errorf("%s: %d asked, known and left, not %d", what, got, []int{asked, known, left})
	}
}

// shown is what is told, and no more of it than can be read.
func shown(x any) string {
	s := fmt.Sprintf("%#v", x)
	return s[:min(len(s), 300)]
}

// tells and values say what a call tells; with an error want is nothing.
func tells(t *testing.T, what string, c *Client, addr string, want api.Account, e api.Errno) {
	t.Helper()
	if got, is := c.Account(addr); got != want || is != e {
		t.Errorf("%s: %s, %d, not %s, %d", what, shown(got), is, shown(want), e)
	}
}

func values(t *testing.T, what string, c *Client, addr string, slot, want api.Word, e api.Errno) {
	t.Helper()
	if got, is := c.Slot(addr, slot); got != want || is != e {
		t.Errorf("%s: %s, %d, not %s, %d", what, shown(got), is, shown(want), e)
	}
}

// P9.1

func TestNewOfNoFile(t *testing.T) {
	d := room(t, 1000, "")
	d.Append("cache.new", framed(accountOf(alice, rich)))
	d.Append("", framed(accountOf(alice, rich)))
	before := files(d)
	d.Arm(0, 1000)
	shows(t, "no file", New(d, cache), 0, 0, 0)
	if d.Crashed() || !maps.Equal(files(d), before) {
		t.Errorf("a step was done: %q", files(d))
	}
}

// TestNewByHand: the bytes of a cache of alice's account, and of the value of her slot 258, written out.
func TestNewByHand(t *testing.T) {
	zeros := strings.Repeat("\x00", 31)
	whom := "\x00\x00\x00\x45\xaf\x7f\xb8\x2c" + "\xf8\x43\x98\xd7\x80\x01\x94" + alice + "\xa9\x5f\xe1\x55\x3e\xe4\x80\x80\xa0" + zeros + "\x00\x80"
	what := "\x00\x00\x00\x66\x56\xb5\x8f\x7f" + "\xf8\x64\xb8\x3a\xf8\x38\x80\x02\x94" + alice + "\xa0" + zeros[1:] + "\x01\x02" + "\xa7\x5c\x37\x94\x8c\xe2\x80\xa0" + zeros + "\x07"
	d := room(t, 1000, whom+what)
	c := New(d, cache)
	shows(t, "by hand", c, 0, 2, 0)
	tells(t, "by hand", c, alice, api.Account{}, api.OK)
	values(t, "by hand", c, alice, api.Word{D: 258}, api.Word{D: 7}, api.OK)
	shows(t, "by hand, told", c, 0, 2, 0)
	c, d = empty(t, account(1, api.Account{}), value(2, api.Word{D: 7}))
	tells(t, "told from afar", c, alice, api.Account{}, api.OK)
	values(t, "told from afar", c, alice, api.Word{D: 258}, api.Word{D: 7}, api.OK)
	if got, _ := d.Read(cache); got != whom+what {
		t.Errorf("%x, not %x", got, whom+what)
	}
}

// TestNewOfMany: each ask is known by itself: another address, kind or slot is another one.
func TestNewOfMany(t *testing.T) {
	var l []string
	slots := []api.Word{{}, {A: 1}, {B: 1}, {C: 1}, {D: 1}, {A: math.MaxUint64, B: math.MaxUint64, C: math.MaxUint64, D: math.MaxUint64}}
	addrs := []string{alice, bob, zero, mixed(20), alice[1:] + "\x00", "\x00" + alice[1:]}
	for i, addr := range addrs {
		l = append(l, accountOf(addr, api.Account{Nonce: uint64(i)}))
		for k, slot := range slots {
			l = append(l, valueOf(addr, slot, api.Word{C: uint64(i), D: uint64(k)}))
		}
	}
	d := room(t, 10000, framed(l...))
	d.Crash() // what stands there is read all the same
	c := New(d, cache)
	for i, addr := range addrs {
		tells(t, fmt.Sprintf("%q", addr), c, addr, api.Account{Nonce: uint64(i)}, api.OK)
		for k, slot := range slots {
			values(t, fmt.Sprintf("%q", addr), c, addr, slot, api.Word{C: uint64(i), D: uint64(k)}, api.OK)
		}
	}
	shows(t, "many", c, 0, len(l), 0)
}

// TestNewLastHolds: of the same ask.
func TestNewLastHolds(t *testing.T) {
	poor, one := api.Account{Balance: api.Word{D: 1}}, api.Word{D: 1}
	c := New(room(t, 10000, framed(
		accountOf(alice, rich), valueOf(alice, one, seven), accountOf(bob, poor), valueOf(bob, one, one),
		accountOf(alice, poor), valueOf(alice, one, one), accountOf(bob, rich), valueOf(bob, one, seven), valueOf(bob, one, api.Word{}),
	)), cache)
	shows(t, "of nine", c, 0, 4, 0)
	tells(t, "the last", c, alice, poor, api.OK)
	tells(t, "the last", c, bob, rich, api.OK)
	values(t, "the last", c, alice, one, one, api.OK)
	values(t, "the last", c, bob, one, api.Word{}, api.OK)
}

// others are texts that are none of a cache, though some are nearly: of alice's account, or of her slots' values.
func others() map[string]string {
	whom, what := asking(ofWhom(0, alice)), asking(ofWhat(0, alice, seven))
	poor, one := account(0, api.Account{}), value(0, api.Word{D: 1})
	lists := func(items ...rlp.Item) string { return rlp.Encode(rlp.List(items...)) }
	a, r := rlp.Text(whom), rlp.Text(poor)
	return map[string]string{
		"nothing":                   "",
		"a byte":                    "\x00",
		"junk":                      mixed(100),
		"a list of nothing":         lists(),
		"a text of nothing":         "\x80",
		"an ask":                    whom,
		"a reply":                   poor,
		"both, without a list":      whom + poor,
		"both in a text":            rlp.Encode(rlp.Text(paired(whom, poor))),
		"an ask alone":              lists(a),
		"a reply alone":             lists(r),
		"a text more":               lists(a, r, rlp.Text("")),
		"a list more":               lists(a, r, rlp.List()),
		"one ahead":                 lists(rlp.Text(""), a, r),
		"turned round":              lists(r, a),
		"an ask twice":              lists(a, a),
		"a reply twice":             lists(r, r),
		"in a list more":            lists(rlp.List(a, r)),
		"each in a list":            lists(rlp.List(a), rlp.List(r)),
		"an ask in a list":          lists(rlp.List(a), r),
		"a reply in a list":         lists(a, rlp.List(r)),
		"lists of nothing":          lists(rlp.List(), rlp.List()),
		"texts of nothing":          paired("", ""),
		"no ask":                    paired("", poor),
		"no reply":                  paired(whom, ""),
		"more behind":               paired(whom, poor) + "\x80",
		"twice":                     strings.Repeat(paired(whom, poor), 2),
		"one byte too few":          paired(whom, poor)[:len(paired(whom, poor))-1],
		"as a long form":            "\xf8\x44\xb8\x18" + whom + "\xa9" + poor,
		"framed again":              framed(paired(whom, poor)),
		"an ask as a list":          lists(rlp.List(rlp.Number(0), rlp.Number(1), rlp.Text(alice)), r),
		"an ask's number 1":         paired(asking(ofWhom(1, alice)), poor),
		"a reply's number 1":        paired(whom, account(1, api.Account{})),
		"both have number 1":        paired(asking(ofWhom(1, alice)), account(1, api.Account{})),
		"a slot's ask number 1":     paired(asking(ofWhat(1, alice, seven)), one),
		"a slot's reply number 1":   paired(what, value(1, seven)),
		"both have the last number": paired(asking(ofWhom(math.MaxUint64, alice)), account(math.MaxUint64, rich)),
		"a slot's value of an ask for an account": paired(whom, one),
		"an account of an ask for a slot":         paired(what, poor),
		"an ask of kind 3":                        lists(rlp.Text(lists(rlp.Number(0), rlp.Number(3), rlp.Text(alice))), r),
		"an ask of 19 bytes":                      lists(rlp.Text(lists(rlp.Number(0), rlp.Number(1), rlp.Text(alice[1:]))), r),
		"a reply with a bit turned":               paired(whom, poor[:len(poor)-1]+"\x81"),
		"a reply's sum turned":                    paired(whom, "\x00"+poor[1:]),
		"a reply without a sum":                   paired(whom, poor[4:]),
		"an ask with a byte more":                 paired(whom+"\x00", poor),
		"a reply with a byte more":                paired(whom, poor+"\x00"),
		"a slot's ask, cut":                       paired(what[:len(what)-1], one),
		"the most bytes":                          mixed(api.MaxBytes),
		"lists in lists":                          strings.Repeat("\xc1", 5000),
	}
}

// TestNewPassesOver: what is none does nothing to what stands ahead of it, nor to what stands behind.
func TestNewPassesOver(t *testing.T) {
	for what, s := range others() {
		c := New(room(t, api.MaxDisk, framed(s)), cache)
		shows(t, what, c, 0, 0, 0)
		c = New(room(t, api.MaxDisk, framed(accountOf(alice, rich), s, valueOf(alice, seven, seven), s, s, accountOf(bob, rich))), cache)
		shows(t, what, c, 0, 3, 0)
		tells(t, what, c, alice, rich, api.OK)
		tells(t, what, c, bob, rich, api.OK)
		values(t, what, c, alice, seven, seven, api.OK)
	}
}

// TestNewOfTorn: what stands behind the first that is no frame isn't known, and stays where it is.
func TestNewOfTorn(t *testing.T) {
	one, two := framed(accountOf(alice, rich)), framed(accountOf(bob, rich))
	for cut := range len(two) {
		d := room(t, 1000, one+two[:cut]+"x"+one+two)
		c := New(d, cache)
		shows(t, fmt.Sprint("cut at ", cut), c, 0, 1, 0)
		tells(t, fmt.Sprint("cut at ", cut), c, alice, rich, api.OK)
		if got, _ := d.Read(cache); got != one+two[:cut]+"x"+one+two {
			t.Errorf("cut at %d: %q", cut, got)
		}
	}
}

// TestNames: any text is a name, and clients of other files know nothing of one another.
func TestNames(t *testing.T) {
	d := room(t, 10000, "")
	names := []string{"", "cache", "cache.new", "\x00", "\xff", "log", strings.Repeat("n", 1000)}
	for i, name := range names {
		c := New(d, name)
		what := fmt.Sprintf("%.9q", name)
		shows(t, what, c, 0, 0, 0)
		c.Script([]string{account(1, api.Account{Nonce: uint64(i)})})
		tells(t, what, c, alice, api.Account{Nonce: uint64(i)}, api.OK)
	}
	for i, name := range names {
		tells(t, fmt.Sprintf("%.9q, anew", name), New(d, name), alice, api.Account{Nonce: uint64(i)}, api.OK)
		if got, _ := d.Read(name); got != framed(accountOf(alice, api.Account{Nonce: uint64(i)})) {
			t.Errorf("%.9q: %q", name, got)
		}
	}
	if len(d.Names()) != len(names) {
		t.Errorf("%q", d.Names())
	}
}

func TestScript(t *testing.T) {
	c, _ := empty(t)
	for i, l := range [][]string{nil, {}, {account(1, rich)}, {"bad", "", "bad"}, nil, {value(5, seven), account(6, rich), "bad"}} {
		c.Script(l)
		shows(t, fmt.Sprint("script ", i), c, 0, 0, []int{0, 0, 1, 4, 4, 7}[i])
	}
	tells(t, "the first", c, alice, rich, api.OK)
	shows(t, "the first", c, 1, 1, 6)
	c.Script([]string{account(8, api.Account{})})
	tells(t, "three bad", c, bob, api.Account{}, api.ErrRemote)
	shows(t, "three bad", c, 4, 1, 4)
	values(t, "behind them", c, bob, seven, seven, api.OK)
	tells(t, "behind them", c, bob, rich, api.OK)
	shows(t, "one bad, and the last", c, 6, 3, 2)
	tells(t, "the last", c, zero, api.Account{}, api.OK)
	shows(t, "the last", c, 8, 4, 0)
	c.Script([]string{"bad"})
	shows(t, "more", c, 8, 4, 1)
}

// TestScriptIsCopied: what was handed in is not written into, nor what stands behind it, and may be, by whoever handed
// it in.
func TestScriptIsCopied(t *testing.T) {
	all := []string{account(1, rich), "bad", account(3, api.Account{Nonce: 8}), value(4, seven), "behind"}
	for first := range len(all) {
		mine, behind := slices.Clone(all[:4]), slices.Clone(all[4:])
		c, _ := empty(t)
		if first > 0 {
			c.Script(mine[:first])
		}
		c.Script(mine[first:4])
		c.Script(behind[:0])
		if !slices.Equal(mine, all[:4]) {
			t.Errorf("written into: %q", mine)
		}
		clear(mine)
		tells(t, "the first", c, alice, rich, api.OK)
		c.Script([]string{"more"})
		tells(t, "the third", c, bob, api.Account{Nonce: 8}, api.OK)
		values(t, "the fourth", c, bob, seven, seven, api.OK)
		shows(t, "copied", c, 4, 3, 1)
		if !slices.Equal(mine, make([]string, 4)) || behind[0] != "behind" {
			t.Errorf("written into: %q, %q", mine, behind)
		}
	}
}

// P9.2

// TestOtherAddresses: with an address that is none nothing is asked, taken, or done on the disk, whatever is known.
func TestOtherAddresses(t *testing.T) {
	c, d := empty(t, account(1, rich), account(2, rich), value(2, seven))
	tells(t, "alice", c, alice, rich, api.OK)
	d.Arm(0, 1000)
	for _, size := range []int{0, 1, 19, 21, 40, 276, api.MaxBytes, 1 << 20} {
		addr := (alice + mixed(1<<20))[:size]
		what := fmt.Sprint("an address of ", size)
		tells(t, what, c, addr, api.Account{}, api.ErrArg)
		values(t, what, c, addr, api.Word{}, api.Word{}, api.ErrArg)
		values(t, what, c, addr, seven, api.Word{}, api.ErrArg)
		shows(t, what, c, 1, 1, 2)
	}
	tells(t, "letters of more bytes", c, strings.Repeat("é", 20), api.Account{}, api.ErrArg)
	if d.Crashed() {
		t.Error("a step was done")
	}
	d.Crash()
	tells(t, "a crashed disk", c, alice[1:], api.Account{}, api.ErrArg)
	tells(t, "a crashed disk", c, alice, rich, api.OK)
}

// TestAskedByHand: the asks' bytes, with their numbers, that go on whatever comes of them.
func TestAskedByHand(t *testing.T) {
	c, _ := empty(t, "bad", account(2, rich), value(3, seven))
	tells(t, "alice", c, alice, rich, api.OK)
	values(t, "bob's slot", c, bob, api.Word{D: 258}, seven, api.OK)
	tells(t, "alice again", c, alice, rich, api.OK)
	tells(t, "none", c, "", api.Account{}, api.ErrArg)
	tells(t, "zero", c, zero, api.Account{}, api.ErrRemote)
	values(t, "bob's slot again", c, bob, api.Word{D: 258}, seven, api.OK)
	values(t, "bob's slot 0", c, bob, api.Word{}, api.Word{}, api.ErrRemote)
	slot := "\x94" + bob + "\xa0" + strings.Repeat("\x00", 30)
	want := []string{
		"\xd7\x01\x01\x94" + alice, "\xd7\x02\x01\x94" + alice, "\xf8\x38\x03\x02" + slot + "\x01\x02",
		"\xd7\x04\x01\x94" + zero, "\xd7\x05\x01\x94" + zero, "\xd7\x06\x01\x94" + zero,
		"\xf8\x38\x07\x02" + slot + "\x00\x00", "\xf8\x38\x08\x02" + slot + "\x00\x00", "\xf8\x38\x09\x02" + slot + "\x00\x00",
	}
	if got := c.Asked(); !slices.Equal(got, want) {
		t.Errorf("%x, not %x", got, want)
	}
}

// TestManyAsks: numbers of more than one byte, too.
func TestManyAsks(t *testing.T) {
	c, d := empty(t)
	var want []string
	for i := range 100 {
		tells(t, "nothing is told", c, alice, api.Account{}, api.ErrRemote)
		for k := range 3 {
			want = append(want, asking(ofWhom(uint64(3*i+k+1), alice)))
		}
	}
	if got := c.Asked(); !slices.Equal(got, want) {
		t.Errorf("%x, not %x", got, want)
	}
	holds(t, "nothing is told", d)
	c.Script([]string{value(301, seven), account(302, rich)})
	tells(t, "told in the end", c, alice, rich, api.OK)
	shows(t, "told in the end", c, 302, 1, 0)
	holds(t, "told in the end", d, accountOf(alice, rich))
}

// TestKnownIsNotAsked: it takes no reply, and does nothing on the disk, as neither does what tells of a client.
func TestKnownIsNotAsked(t *testing.T) {
	c, d := empty(t, account(1, rich), value(2, seven), account(3, api.Account{}), value(3, api.Word{}))
	tells(t, "alice", c, alice, rich, api.OK)
	values(t, "slot 7", c, alice, seven, seven, api.OK)
	d.Arm(0, 1000)
	for range 3 {
		tells(t, "alice", c, alice, rich, api.OK)
		values(t, "slot 7", c, alice, seven, seven, api.OK)
		shows(t, "known", c, 2, 2, 2)
	}
	if d.Crashed() {
		t.Error("a step was done")
	}
}

// TestOtherAsksAreAsked: what is known of one address, kind or slot is not told of another one.
func TestOtherAsksAreAsked(t *testing.T) {
	c, d := empty(t, account(1, rich))
	tells(t, "alice", c, alice, rich, api.OK)
	values(t, "alice's slot 0", c, alice, api.Word{}, api.Word{}, api.ErrRemote)
	tells(t, "bob", c, bob, api.Account{}, api.ErrRemote)
	c.Script([]string{value(8, seven)})
	values(t, "alice's slot 0", c, alice, api.Word{}, seven, api.OK)
	for i, slot := range []api.Word{{A: 1}, {B: 1}, {C: 1}, {D: 1}} {
		values(t, fmt.Sprint("another slot, ", i), c, alice, slot, api.Word{}, api.ErrRemote)
	}
	values(t, "bob's slot 0", c, bob, api.Word{}, api.Word{}, api.ErrRemote)
	tells(t, "alice still", c, alice, rich, api.OK)
	shows(t, "others", c, 23, 2, 0)
	holds(t, "others", d, accountOf(alice, rich), valueOf(alice, api.Word{}, seven))
}

// TestNothingIsKnownToo: an account of nothing, and a value of 0, are told, and known.
func TestNothingIsKnownToo(t *testing.T) {
	c, d := empty(t, account(1, api.Account{}), value(2, api.Word{}))
	for range 2 {
		tells(t, "nothing", c, alice, api.Account{}, api.OK)
		values(t, "nothing", c, alice, api.Word{}, api.Word{}, api.OK)
		shows(t, "nothing", c, 2, 2, 0)
	}
	holds(t, "nothing", d, accountOf(alice, api.Account{}), valueOf(alice, api.Word{}, api.Word{}))
}

// TestTries: the first of three that counts is told; the fourth isn't taken.
func TestTries(t *testing.T) {
	for ahead := range 5 {
		for behind := range 4 {
			replies := append(slices.Repeat([]string{"bad"}, ahead), account(uint64(ahead+1), rich))
			replies = append(replies, slices.Repeat([]string{account(uint64(ahead+2), api.Account{})}, behind)...)
			c, d := empty(t, replies...)
			what := fmt.Sprint(ahead, " ahead, ", behind, " behind")
			if ahead < 3 {
				tells(t, what, c, alice, rich, api.OK)
				shows(t, what, c, ahead+1, 1, behind)
				holds(t, what, d, accountOf(alice, rich))
			} else {
				tells(t, what, c, alice, api.Account{}, api.ErrRemote)
				shows(t, what, c, 3, 0, len(replies)-3)
				holds(t, what, d)
			}
		}
	}
}

// TestTooFewReplies: where there is none, it is asked all the same.
func TestTooFewReplies(t *testing.T) {
	for many := range 3 {
		c, d := empty(t, slices.Repeat([]string{"bad"}, many)...)
		tells(t, "an account", c, alice, api.Account{}, api.ErrRemote)
		shows(t, "an account", c, 3, 0, 0)
		values(t, "a slot", c, alice, seven, api.Word{}, api.ErrRemote)
		shows(t, "a slot", c, 6, 0, 0)
		holds(t, "nothing is told", d)
		if got := c.Asked(); got[2] != asking(ofWhom(3, alice)) || got[3] != asking(ofWhat(4, alice, seven)) {
			t.Errorf("%x", got)
		}
	}
}

// TestWhatCounts: of the kind, with the ask's number, whole.
func TestWhatCounts(t *testing.T) {
	whose, what := account(2, rich), value(2, seven)
	bad := []string{"", "\x00", "\xc0", mixed(50), mixed(api.MaxBytes + 1), asking(ofWhom(2, alice)), asking(ofWhat(2, alice, seven)), whose[4:], what[4:], whose + "\x00", what + "\x00", whose[1:], what[1:], whose + whose, accountOf(alice, rich), framed(whose)}
	for _, id := range []uint64{0, 1, 3, 4, 258, 1<<32 + 2, 1<<63 + 2, math.MaxUint64} {
		bad = append(bad, account(id, rich), value(id, seven))
	}
	for bit := range 8 * len(whose) {
		bad = append(bad, turned(whose, bit))
	}
	for bit := range 8 * len(what) {
		bad = append(bad, turned(what, bit))
	}
	for _, s := range bad {
		counts(t, 1, s, false)
		counts(t, 2, s, false)
	}
	counts(t, 1, whose, true)
	counts(t, 2, whose, false)
	counts(t, 1, what, false)
	counts(t, 2, what, true)
}

// turned is s with that bit turned.
func turned(s string, bit int) string {
	out := []byte(s)
	out[bit/8] ^= 1 << (bit % 8)
	return string(out)
}

// counts says whether s counts as the reply to ask 2, of that kind: if not, the one behind it does.
func counts(t *testing.T, kind int, s string, is bool) {
	t.Helper()
	what := fmt.Sprintf("of kind %d, %.60x", kind, s)
	c, d := empty(t, "bad", s, map[int]string{1: account(3, api.Account{Nonce: 5}), 2: value(3, api.Word{D: 5})}[kind])
	left := map[bool]int{true: 1, false: 0}[is]
	if kind == 1 {
		want := map[bool]api.Account{true: rich, false: {Nonce: 5}}[is]
		tells(t, what, c, alice, want, api.OK)
		holds(t, what, d, accountOf(alice, want))
	} else {
		want := map[bool]api.Word{true: seven, false: {D: 5}}[is]
		values(t, what, c, alice, seven, want, api.OK)
		holds(t, what, d, valueOf(alice, seven, want))
	}
	shows(t, what, c, 3-left, 1, left)
}

// TestLateReplies: one that comes an ask too late counts for none, though it is for the same address.
func TestLateReplies(t *testing.T) {
	c, d := empty(t, "bad", account(1, rich), account(2, rich), account(3, rich), value(5, seven), account(4, rich))
	tells(t, "late", c, alice, api.Account{}, api.ErrRemote)
	tells(t, "late still", c, alice, api.Account{}, api.ErrRemote)
	shows(t, "late", c, 6, 0, 0)
	holds(t, "late", d)
}

// TestOfAllSizes: whatever an account and a value may be is told, kept, and told anew.
func TestOfAllSizes(t *testing.T) {
	c, d := empty(t)
	var all []api.Account
	for _, size := range []int{0, 1, 2, 17, 55, 56, 255, 256, 257, 24575, api.MaxCode} {
		for _, w := range []api.Word{{}, {A: 1}, {A: math.MaxUint64, B: math.MaxUint64, C: math.MaxUint64, D: math.MaxUint64}} {
			all = append(all, api.Account{Nonce: uint64(size) << 40, Balance: w, Code: mixed(size)})
		}
	}
	addr := func(i int) string { return mixed(20 + i)[i:] }
	for i, a := range all {
		c.Script([]string{account(uint64(2*i+1), a), value(uint64(2*i+2), a.Balance)})
		tells(t, fmt.Sprint("account ", i), c, addr(i), a, api.OK)
		values(t, fmt.Sprint("slot ", i), c, addr(i), a.Balance, a.Balance, api.OK)
	}
	for _, c := range []*Client{c, New(d, cache), New(d.Lost(0), cache)} {
		for i, a := range all {
			tells(t, fmt.Sprint("account ", i), c, addr(i), a, api.OK)
			values(t, fmt.Sprint("slot ", i), c, addr(i), a.Balance, a.Balance, api.OK)
		}
		if c.Known() != 2*len(all) || c.Left() != 0 {
			t.Errorf("%d known, %d left", c.Known(), c.Left())
		}
	}
}

// TestFull: with one byte too few on the disk nothing is known, and nothing stands there; with room it is.
func TestFull(t *testing.T) {
	text := accountOf(alice, rich)
	for size := range len(framed(text)) {
		d := room(t, size, "")
		c := New(d, cache)
		c.Script([]string{"bad", account(2, rich), account(3, rich), "bad", "bad", "bad"})
		what := fmt.Sprint("room ", size)
		tells(t, what, c, alice, api.Account{}, api.ErrFull)
		shows(t, what, c, 2, 0, 4)
		holds(t, what, d)
		tells(t, what+", again", c, alice, api.Account{}, api.ErrFull)
		shows(t, what+", again", c, 3, 0, 3)
		tells(t, what+", nothing told", c, alice, api.Account{}, api.ErrRemote)
		shows(t, what+", nothing told", c, 6, 0, 0)
		holds(t, what, d)
	}
	d := room(t, len(framed(text)), "")
	c := New(d, cache)
	c.Script([]string{account(1, rich), value(2, seven)})
	tells(t, "room", c, alice, rich, api.OK)
	values(t, "no more", c, alice, seven, api.Word{}, api.ErrFull)
	tells(t, "known still", c, alice, rich, api.OK)
	shows(t, "room", c, 2, 1, 0)
	holds(t, "room", d, text)
}

// TestFullForAWhile: when another file is gone, what is told then is known.
func TestFullForAWhile(t *testing.T) {
	d := room(t, 150, framed(accountOf(bob, rich)))
	d.Append("other", mixed(50))
	c := New(d, cache)
	c.Script([]string{value(1, seven), value(2, api.Word{D: 1})})
	values(t, "full", c, alice, seven, api.Word{}, api.ErrFull)
	d.Delete("other")
	d.Delete(cache)
	values(t, "not full", c, alice, seven, api.Word{D: 1}, api.OK)
	tells(t, "what was known", c, bob, rich, api.OK)
	shows(t, "not full", c, 2, 2, 0)
	holds(t, "not full", d, valueOf(alice, seven, api.Word{D: 1}))
}

// TestCrash: at each step, torn anywhere: it is not known; behind it, it is what the disk has.
func TestCrash(t *testing.T) {
	ahead, text := framed(accountOf(bob, rich)), framed(accountOf(alice, rich))
	for after := -1; after < 4; after++ {
		for _, torn := range []int{-1, 0, 1, 8, len(text) - 1, len(text), 1000} {
			d := room(t, 1000, ahead)
			c := New(d, cache)
			c.Script([]string{account(1, rich), account(2, rich)})
			d.Arm(after, torn)
			what := fmt.Sprintf("crash behind %d, torn at %d", after, torn)
			if after < 0 || after > 1 {
				tells(t, what, c, alice, rich, api.OK)
				shows(t, what, c, 1, 2, 1)
				continue
			}
			tells(t, what, c, alice, api.Account{}, api.ErrCrash)
			shows(t, what, c, 1, 1, 1)
			tells(t, what+", again", c, alice, api.Account{}, api.ErrCrash)
			tells(t, what+", nothing told", c, alice, api.Account{}, api.ErrRemote)
			shows(t, what+", again", c, 5, 1, 0)
			tells(t, what+", known", c, bob, rich, api.OK)
			known := map[bool]int{true: 2, false: 1}[after == 1 || torn >= len(text)]
			shows(t, what+", found", New(d.Wrecked(), cache), 0, known, 0)
			shows(t, what+", lost", New(d.Lost(0), cache), 0, 1, 0)
		}
	}
}

// TestAddedBehind: what is told stands behind what stood there, also behind what is none, and counts as the last.
func TestAddedBehind(t *testing.T) {
	ahead := []string{accountOf(bob, rich), "junk", accountOf(bob, api.Account{}), valueOf(alice, seven, seven)}
	d := room(t, 10000, framed(ahead...))
	c := New(d, cache)
	c.Script([]string{account(1, rich), value(2, api.Word{D: 1})})
	tells(t, "alice", c, alice, rich, api.OK)
	values(t, "bob's slot", c, bob, seven, api.Word{D: 1}, api.OK)
	tells(t, "bob", c, bob, api.Account{}, api.OK)
	shows(t, "behind", c, 2, 4, 0)
	holds(t, "behind", d, append(ahead, accountOf(alice, rich), valueOf(bob, seven, api.Word{D: 1}))...)
}

// TestAddedBehindTorn: a client mends nothing: what stands behind what is torn is known to it, but to none anew.
func TestAddedBehindTorn(t *testing.T) {
	one, torn, two := framed(accountOf(bob, rich)), framed("torn")[:9], framed(accountOf(alice, rich))
	d := room(t, 1000, one+torn)
	c := New(d, cache)
	c.Script([]string{account(1, rich)})
	for range 2 {
		tells(t, "behind what is torn", c, alice, rich, api.OK)
		shows(t, "behind what is torn", c, 1, 2, 0)
	}
	if got := files(d.Lost(0)); !maps.Equal(got, map[string]string{cache: one + torn + two}) {
		t.Errorf("%q", got)
	}
	shows(t, "anew", New(d, cache), 0, 1, 0)
}

// TestClientsOfOneFile: each knows what stood there when it began, and what it was told; the last told holds.
func TestClientsOfOneFile(t *testing.T) {
	one, d := empty(t, account(1, rich), value(2, seven))
	two := New(d, cache)
	two.Script([]string{account(1, api.Account{Nonce: 1})})
	tells(t, "one", one, alice, rich, api.OK)
	tells(t, "two", two, alice, api.Account{Nonce: 1}, api.OK)
	tells(t, "one again", one, alice, rich, api.OK)
	shows(t, "one", one, 1, 1, 1)
	shows(t, "two", two, 1, 1, 0)
	tells(t, "a third", New(d, cache), alice, api.Account{Nonce: 1}, api.OK)
	holds(t, "both", d, accountOf(alice, rich), accountOf(alice, api.Account{Nonce: 1}))
}

// TestAskedIsNew: what is done to a list that was told isn't seen in the next one.
func TestAskedIsNew(t *testing.T) {
	c, _ := empty(t)
	tells(t, "alice", c, alice, api.Account{}, api.ErrRemote)
	first := c.Asked()
	want := slices.Clone(first)
	_ = append(first[:0], "x", "y", "z")
	first = append(first, "w", "v")
	tells(t, "bob", c, bob, api.Account{}, api.ErrRemote)
	if got := c.Asked(); len(got) != 6 || !slices.Equal(got[:3], want) || got[3] != asking(ofWhom(4, bob)) {
		t.Errorf("%x", got)
	}
	if first[3] != "w" || first[4] != "v" {
		t.Errorf("written into: %x", first)
	}
}

// TestNothingIsKeptOf: neither an address that was handed in nor a reply is what is told, or asked, from.
func TestNothingIsKeptOf(t *testing.T) {
	inside := func(s, all string) bool {
		from, place := uintptr(unsafe.Pointer(unsafe.StringData(all))), uintptr(unsafe.Pointer(unsafe.StringData(s)))
		return place >= from && place < from+uintptr(len(all))
	}
	big, reply := mixed(1000), account(1, rich)
	c, _ := empty(t, reply)
	a, _ := c.Account(big[500:520])
	if inside(a.Code, reply) {
		t.Error("the code is a part of the reply")
	}
	for ask := range c.known {
		if inside(ask.Addr, big) {
			t.Error("the address is kept")
		}
	}
}

// P9.3

// walk is a client, and what it is to be by the chapter's words: its disk is another one, to which the same is done.
type walk struct {
	seed   uint64
	client *Client
	disk   *disk.Disk
	twin   *disk.Disk
	known  map[wire.Ask]wire.Reply
	script []string
	asked  []string
}

// next is a number below below, always in the same order.
func (w *walk) next(below int) int {
	w.seed ^= w.seed << 13
	w.seed ^= w.seed >> 7
	w.seed ^= w.seed << 17
	return int(w.seed >> 20 % uint64(below))
}

// fill puts some replies into the script: many of them count, if they come in time.
func (w *walk) fill() {
	var l []string
	for range w.next(5) {
		id := uint64(len(w.asked) + len(w.script) + len(l) + 1)
		if w.next(3) == 0 {
			id = uint64(len(w.asked) + w.next(6))
		}
		s := account(id, api.Account{Nonce: uint64(w.next(3)), Code: mixed(w.next(30))})
		if w.next(2) == 0 {
			s = value(id, api.Word{C: uint64(w.next(2)), D: uint64(w.next(300))})
		}
		if w.next(6) == 0 {
			s = turned(s, w.next(8*len(s)))
		}
		l = append(l, s)
	}
	w.client.Script(l)
	w.script = append(w.script, l...)
}

// want is what an ask is to be told.
func (w *walk) want(a wire.Ask) (wire.Reply, api.Errno) {
	if len(a.Addr) != 20 {
		return wire.Reply{}, api.ErrArg
	}
	if r, ok := w.known[a]; ok {
		return r, api.OK
	}
	for try := 1; try <= 3; try++ {
		number := uint64(len(w.asked) + 1)
		numbered := a
		numbered.ID = number
		w.asked = append(w.asked, asking(numbered))
		if len(w.script) == 0 {
			continue
		}
		r, ok := wire.GetReply(a.Kind, w.script[0])
		w.script = w.script[1:]
		if !ok || r.ID != number {
			continue
		}
		r.ID = 0
		if e := record.Add(w.twin, cache, paired(asking(a), sure(wire.PutReply(a.Kind, r)))); e != api.OK {
			return wire.Reply{}, e
		}
		w.known[a] = r
		return r, api.OK
	}
	return wire.Reply{}, api.ErrRemote
}

// ask asks for anything.
func (w *walk) ask(t *testing.T, what string) {
	t.Helper()
	addr := []string{alice, bob, zero, alice, bob, zero, "short", alice + "a"}[w.next(8)]
	if w.next(2) == 0 {
		want, e := w.want(ofWhom(0, addr))
		tells(t, what, w.client, addr, want.Account, e)
		return
	}
	slot := api.Word{D: uint64(w.next(3))}
	want, e := w.want(ofWhat(0, addr, slot))
	values(t, what, w.client, addr, slot, want.Value, e)
}

// reopen is a client anew, over what is left of the disk: what was told once is known again, but where that file had to
// go, as it was torn, and there is no room to mend it.
func (w *walk) reopen(t *testing.T) {
	t.Helper()
	keep := w.next(100)
	w.disk, w.twin = w.disk.Lost(keep), w.twin.Lost(keep)
	told := w.known
	for _, d := range []*disk.Disk{w.disk, w.twin} {
		if record.Mend(d, cache) != api.OK {
			d.Delete(cache)
			told = nil
		}
	}
	w.known, w.script, w.asked = map[wire.Ask]wire.Reply{}, nil, nil
	for _, s := range record.All(w.twin, cache) {
		pair, _ := rlp.Decode(s)
		a, _ := wire.GetAsk(pair.L[0].S)
		w.known[a], _ = wire.GetReply(a.Kind, pair.L[1].S)
	}
	for a, r := range told {
		if got, ok := w.known[a]; !ok || got != r {
			t.Errorf("%v was told once, and isn't known", a)
		}
	}
	w.client = New(w.disk, cache)
}

// same says that the client is what it is to be.
func (w *walk) same(t *testing.T, what string) {
	t.Helper()
	shows(t, what, w.client, len(w.asked), len(w.known), len(w.script))
	if !slices.Equal(w.client.Asked(), w.asked) {
		t.Errorf("%s: asked %x, not %x", what, w.client.Asked(), w.asked)
	}
	if got, want := files(w.disk), files(w.twin); !maps.Equal(got, want) {
		t.Errorf("%s: %q, not %q", what, got, want)
	}
}

// TestWalks: many calls in any order, on disks that are full, or crash, and are found again.
func TestWalks(t *testing.T) {
	for seed := range 300 {
		size := []int{300, 500, 100000}[seed%3]
		w := &walk{seed: uint64(seed)*7919 + 1, disk: room(t, size, ""), twin: room(t, size, ""), known: map[wire.Ask]wire.Reply{}}
		w.client = New(w.disk, cache)
		for step := range 120 {
			what := fmt.Sprint("seed ", seed, ", step ", step)
			switch w.next(40) {
			case 0, 1, 2, 3, 4, 5, 6, 7, 8, 9:
				w.fill()
			case 10:
				after, torn := w.next(6), w.next(100)
				w.disk.Arm(after, torn)
				w.twin.Arm(after, torn)
			case 11:
				w.reopen(t)
			default:
				w.ask(t, what)
			}
			w.same(t, what)
			if t.Failed() {
				return
			}
		}
	}
}

// TestToldOnce: it is told again with nothing asked, and by clients anew, one behind the other, though other replies wait.
func TestToldOnce(t *testing.T) {
	c, d := empty(t, account(1, rich), "bad", value(3, seven))
	tells(t, "at first", c, alice, rich, api.OK)
	values(t, "at first", c, alice, seven, seven, api.OK)
	for again := range 5 {
		what := fmt.Sprint("again, ", again)
		c = New(d, cache)
		c.Script([]string{account(1, api.Account{}), value(1, api.Word{})})
		tells(t, what, c, alice, rich, api.OK)
		values(t, what, c, alice, seven, seven, api.OK)
		shows(t, what, c, 0, 2, 2)
		d = d.Lost(0)
	}
	holds(t, "again", d, accountOf(alice, rich), valueOf(alice, seven, seven))
}

// TestNumbersBeginAnew: the first ask of each client has the number 1.
func TestNumbersBeginAnew(t *testing.T) {
	c, d := empty(t, account(1, rich), account(2, api.Account{}))
	tells(t, "at first", c, alice, rich, api.OK)
	anew := New(d, cache)
	anew.Script([]string{value(1, seven)})
	values(t, "anew", anew, bob, seven, seven, api.OK)
	if got := anew.Asked(); !slices.Equal(got, []string{asking(ofWhat(1, bob, seven))}) {
		t.Errorf("%x", got)
	}
	tells(t, "the first goes on", c, bob, api.Account{}, api.OK)
	shows(t, "the first goes on", c, 2, 2, 0)
}

func BenchmarkKnownSlot(b *testing.B) {
	d, _ := disk.New(1000)
	c := New(d, cache)
	c.Script([]string{value(1, seven)})
	for b.Loop() {
		c.Slot(alice, seven)
	}
}

func BenchmarkTold(b *testing.B) {
	for b.Loop() {
		d, _ := disk.New(1000)
		c := New(d, cache)
		c.Script([]string{value(1, seven)})
		c.Slot(alice, seven)
	}
}
