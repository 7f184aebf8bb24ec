package wire

import (
	"encoding/binary"
	"fmt"
	"hash/crc32"
	"math"
	"math/big"
	"slices"
	"strings"
	"testing"
	"unsafe"

	"stithy/api"
)

const addr = "01234567890123456789"

// next goes through all numbers of 64 bits but 0, always in the same order.
func next(seed *uint64) uint64 {
	*seed ^= *seed << 13
	*seed ^= *seed >> 7
	*seed ^= *seed << 17
	return *seed
}

// mixed is so many bytes, of all kinds.
func mixed(size int) string {
	seed := uint64(size)*2 + 1
	out := make([]byte, size)
	for i := range out {
		out[i] = byte(next(&seed) >> 40)
	}
	return string(out)
}

// text, list, number and wide are what an item is encoded as by chapter 4's words, wide one of a word's 32 bytes.
func text(s string) string {
	if len(s) == 1 && s[0] < 128 {
		return s
	}
	return head(128, len(s)) + s
}

func list(items ...string) string {
	all := strings.Join(items, "")
	return head(192, len(all)) + all
}

func head(kind, size int) string {
	if size <= 55 {
		return string([]byte{byte(kind + size)})
	}
	n := big.NewInt(int64(size)).Bytes()
	return string([]byte{byte(kind + 55 + len(n))}) + string(n)
}

func number(n uint64) string { return text(string(new(big.Int).SetUint64(n).Bytes())) }

func wide(w api.Word) string {
	var out []byte
	for _, part := range []uint64{w.A, w.B, w.C, w.D} {
		out = binary.BigEndian.AppendUint64(out, part)
	}
	return text(string(out))
}

// wordOf is the word of 32 bytes.
func wordOf(s string) api.Word {
	part := func(i int) uint64 { return binary.BigEndian.Uint64([]byte(s[8*i:])) }
	return api.Word{A: part(0), B: part(1), C: part(2), D: part(3)}
}

// withSum is a body with the library's sum of it ahead.
func withSum(body string) string {
	return string(binary.BigEndian.AppendUint32(nil, crc32.ChecksumIEEE([]byte(body)))) + body
}

// modelAsk and modelReply are what is put, by the chapter's words.
func modelAsk(a Ask) string {
	fields := []string{number(a.ID), number(uint64(a.Kind)), text(a.Addr)}
	if a.Kind == 2 {
		fields = append(fields, wide(a.Slot))
	}
	return list(fields...)
}

func modelReply(kind int, r Reply) string {
	if kind == 1 {
		return withSum(list(number(r.ID), number(r.Account.Nonce), wide(r.Account.Balance), text(r.Account.Code)))
	}
	return withSum(list(number(r.ID), wide(r.Value)))
}

// shown is what is told of an ask or a reply, and no more of it than can be read.
func shown(x any) string {
	s := fmt.Sprintf("%#v", x)
	return s[:min(len(s), 300)]
}

// askPut and replyPut say that it is put so, and got; the others that it isn't.
func askPut(t *testing.T, a Ask, want string) {
	t.Helper()
	if s, ok := PutAsk(a); s != want || !ok {
		t.Errorf("put %s: %x, %v, not %x", shown(a), s, ok, want)
	}
	if got, ok := GetAsk(want); got != a || !ok {
		t.Errorf("got of %x: %s, %v, not %s", want, shown(got), ok, shown(a))
	}
}

func replyPut(t *testing.T, kind int, r Reply, want string) {
	t.Helper()
	if s, ok := PutReply(kind, r); s != want || !ok {
		t.Errorf("put %d %s: %.99x, %v, not %.99x", kind, shown(r), s, ok, want)
	}
	if got, ok := GetReply(kind, want); got != r || !ok {
		t.Errorf("got of %d %.99x: %s, %v, not %s", kind, want, shown(got), ok, shown(r))
	}
}

func askNotPut(t *testing.T, a Ask) {
	t.Helper()
	if s, ok := PutAsk(a); s != "" || ok {
		t.Errorf("put %s: %.99x, %v", shown(a), s, ok)
	}
}

func replyNotPut(t *testing.T, kind int, r Reply) {
	t.Helper()
	if s, ok := PutReply(kind, r); s != "" || ok {
		t.Errorf("put %d %s: %.99x, %v", kind, shown(r), s, ok)
	}
}

func askNotGot(t *testing.T, what, s string) {
	t.Helper()
	if a, ok := GetAsk(s); a != (Ask{}) || ok {
		t.Errorf("%s: got of %.99x: %s, %v", what, s, shown(a), ok)
	}
}

func replyNotGot(t *testing.T, what string, kind int, s string) {
	t.Helper()
	if r, ok := GetReply(kind, s); r != (Reply{}) || ok {
		t.Errorf("%s: got of %d %.99x: %s, %v", what, kind, s, shown(r), ok)
	}
}

// numbers are about the borders of bytes.
func numbers() []uint64 {
	out := []uint64{0, 5, 300, math.MaxUint64}
	for bit := range 64 {
		out = append(out, 1<<bit, 1<<bit-1, 1<<bit+1)
	}
	return out
}

// words have bits in each of their parts, and bytes 0 ahead and behind.
func words() []api.Word {
	out := []api.Word{{}, {A: math.MaxUint64, B: math.MaxUint64, C: math.MaxUint64, D: math.MaxUint64}, wordOf(mixed(32))}
	for _, n := range []uint64{1, 127, 128, 256, 1 << 63, math.MaxUint64} {
		out = append(out, api.Word{A: n}, api.Word{B: n}, api.Word{C: n}, api.Word{D: n})
	}
	return out
}

// otherKinds are neither 1 nor 2, though some have their lowest bytes.
func otherKinds() []int {
	return []int{0, 3, 4, -1, -2, 127, 128, 257, 258, 1<<16 + 1, 1<<32 + 1, 1<<32 + 2, math.MinInt, math.MinInt + 1, math.MinInt + 2, math.MaxInt}
}

// P8.1

func TestAskByHand(t *testing.T) {
	slot := strings.Repeat("\x00", 30) + "\x01\x02"
	for want, a := range map[string]Ask{
		"\xd7\x05\x01\x94" + addr:                                 {ID: 5, Addr: addr, Kind: 1},
		"\xd7\x80\x01\x94" + addr:                                 {Addr: addr, Kind: 1},
		"\xd8\x81\x80\x01\x94" + addr:                             {ID: 128, Addr: addr, Kind: 1},
		"\xdf\x88\xff\xff\xff\xff\xff\xff\xff\xff\x01\x94" + addr: {ID: math.MaxUint64, Addr: addr, Kind: 1},
		"\xf8\x38\x05\x02\x94" + addr + "\xa0" + slot:             {ID: 5, Addr: addr, Kind: 2, Slot: api.Word{D: 258}},
		"\xf8\x3a\x82\x01\x2c\x02\x94" + addr + "\xa0" + slot:     {ID: 300, Addr: addr, Kind: 2, Slot: api.Word{D: 258}},
	} {
		askPut(t, a, want)
	}
}

func TestAskOfAllFields(t *testing.T) {
	for _, id := range numbers() {
		for _, a := range []string{addr, mixed(20), strings.Repeat("\x00", 20), strings.Repeat("\xff", 20)} {
			one := Ask{ID: id, Addr: a, Kind: 1}
			askPut(t, one, modelAsk(one))
			for _, slot := range words() {
				two := Ask{ID: id, Addr: a, Kind: 2, Slot: slot}
				askPut(t, two, modelAsk(two))
			}
		}
	}
}

func TestAskOfOtherKinds(t *testing.T) {
	for _, kind := range otherKinds() {
		a := Ask{ID: 7, Addr: addr, Kind: kind}
		askNotPut(t, a)
		askNotGot(t, fmt.Sprint("kind ", kind), modelAsk(a))
		askNotGot(t, fmt.Sprint("kind ", kind, " with a slot"), list(number(7), number(uint64(kind)), text(addr), wide(api.Word{})))
		a.Slot = api.Word{D: 1}
		askNotPut(t, a)
	}
}

func TestAskOfOtherAddresses(t *testing.T) {
	for _, size := range []int{0, 1, 19, 21, 32, 40, 276, api.MaxBytes - 100, api.MaxBytes, 1 << 20} {
		for kind := 1; kind <= 2; kind++ {
			a := Ask{ID: 7, Addr: mixed(size), Kind: kind}
			askNotPut(t, a)
			askNotGot(t, fmt.Sprint("an address of ", size), modelAsk(a))
		}
	}
}

func TestAskOfAccountWithSlot(t *testing.T) {
	for _, slot := range words()[1:] {
		askNotPut(t, Ask{ID: 7, Addr: addr, Kind: 1, Slot: slot})
	}
	for _, slot := range words() {
		askNotGot(t, "an account's slot", list(number(7), number(1), text(addr), wide(slot)))
	}
}

// TestGetAskOfWhatIsNone: an item that is encoded rightly, but is no ask.
func TestGetAskOfWhatIsNone(t *testing.T) {
	id, one, two, a, slot := number(7), number(1), number(2), text(addr), wide(api.Word{D: 9})
	for what, s := range map[string]string{
		"a text":                       text(id + one + a),
		"an address alone":             a,
		"nothing":                      "",
		"a text of nothing":            text(""),
		"a list of nothing":            list(),
		"an ID alone":                  list(id),
		"no address":                   list(id, one),
		"no kind":                      list(id, a),
		"no ID":                        list(one, a),
		"no slot":                      list(id, two, a),
		"an item more":                 list(id, one, a, number(0)),
		"a list more":                  list(id, one, a, list()),
		"a slot's item more":           list(id, two, a, slot, slot),
		"a list in a list":             list(list(id, one, a)),
		"more behind":                  list(id, one, a) + "\x80",
		"two":                          list(id, one, a) + list(id, one, a),
		"kind and ID turned round":     list(two, id, a, slot),
		"the address first":            list(a, id, one),
		"slot and address turned":      list(id, two, slot, a),
		"an ID with a byte 0 ahead":    list(text("\x00\x07"), one, a),
		"an ID of a byte 0":            list(text("\x00"), one, a),
		"an ID of nine bytes":          list(text("\x01\x00\x00\x00\x00\x00\x00\x00\x07"), one, a),
		"an ID of nine, the first 0":   list(text("\x00\x00\x00\x00\x00\x00\x00\x00\x07"), one, a),
		"an ID that is a list":         list(list(), one, a),
		"an ID in a list":              list(list(id), one, a),
		"a kind with a byte 0 ahead":   list(id, text("\x00\x01"), a),
		"a kind of nine bytes":         list(id, text("\x01\x00\x00\x00\x00\x00\x00\x00\x01"), a),
		"a kind in a list":             list(id, list(one), a),
		"an address that is a list":    list(id, one, list()),
		"an address in a list":         list(id, one, list(a)),
		"a slot that is a list":        list(id, two, a, list()),
		"a slot in a list":             list(id, two, a, list(slot)),
		"a slot as a number":           list(id, two, a, number(9)),
		"a slot of nothing":            list(id, two, a, text("")),
		"a slot of 31 bytes":           list(id, two, a, text(strings.Repeat("\x01", 31))),
		"a slot of 33 bytes":           list(id, two, a, text("\x00"+strings.Repeat("\x01", 32))),
		"a slot of 33 bytes 0":         list(id, two, a, text(strings.Repeat("\x00", 33))),
		"an ID as a long form":         "\xd8\x81\x07\x01" + a,
		"a list as a long form":        "\xf8\x17\x07\x01" + a,
		"an address as a long form":    "\xd8\x07\x01\xb8\x14" + addr,
		"an ID as of 0, not of no one": "\xd7\x00\x01" + a,
		"a sum ahead":                  withSum(list(id, one, a)),
		"more than is decoded":         list(id, one, text(mixed(api.MaxBytes))),
	} {
		askNotGot(t, what, s)
	}
}

// judgeAsk is the ask that is put as s by the model: all that it could be are tried.
func judgeAsk(s string) (Ask, bool) {
	for kind := 1; kind <= 2; kind++ {
		behind := 21
		if kind == 2 {
			behind += 33
		}
		for first := 1; first <= 2; first++ {
			for size := 0; size <= 8; size++ {
				id := len(s) - behind - 1 - size
				if id < first || id > first+1 {
					continue
				}
				a := Ask{ID: new(big.Int).SetBytes([]byte(s[id : id+size])).Uint64(), Kind: kind, Addr: s[id+size+2:][:20]}
				if kind == 2 {
					a.Slot = wordOf(s[len(s)-32:])
				}
				if modelAsk(a) == s {
					return a, true
				}
			}
		}
	}
	return Ask{}, false
}

// nearly are texts about s: with any one byte another one, or with one taken away, or one more.
func nearly(s string, tell func(near string)) {
	for i := range len(s) {
		for b := range 256 {
			tell(s[:i] + string([]byte{byte(b)}) + s[i+1:])
		}
		tell(s[:i] + s[i+1:])
		tell(s[:i])
		tell(s[i:])
		for _, more := range []string{"\x00", "\x01", "\x80", "\xc0", s[i : i+1]} {
			tell(s[:i] + more + s[i:])
		}
	}
	for _, more := range []string{"\x00", "\x80", "\xc0", s} {
		tell(s + more)
	}
}

func TestGetAskOfNearly(t *testing.T) {
	asks := 0
	for _, a := range []Ask{
		{Addr: addr, Kind: 1}, {ID: 1, Addr: addr, Kind: 1}, {ID: 127, Addr: mixed(20), Kind: 1}, {ID: 128, Addr: addr, Kind: 1},
		{ID: math.MaxUint64, Addr: addr, Kind: 1}, {Addr: addr, Kind: 2}, {ID: 2, Addr: addr, Kind: 2, Slot: api.Word{A: 1}},
		{ID: 256, Addr: mixed(20), Kind: 2, Slot: wordOf(mixed(32))}, {ID: math.MaxUint64, Addr: addr, Kind: 2, Slot: api.Word{D: 1}},
	} {
		nearly(modelAsk(a), func(near string) {
			want, is := judgeAsk(near)
			if got, ok := GetAsk(near); got != want || ok != is {
				t.Errorf("%x: %s, %v, not %s, %v", near, shown(got), ok, shown(want), is)
			}
			if is {
				asks++
			}
		})
	}
	if asks < 50000 {
		t.Errorf("only %d of them are asks", asks)
	}
}

// P8.2

func TestReplyByHand(t *testing.T) {
	zeros := strings.Repeat("\x00", 31)
	for _, c := range []struct {
		kind int
		r    Reply
		want string
	}{
		{1, Reply{}, "\x5f\xe1\x55\x3e\xe4\x80\x80\xa0" + zeros + "\x00\x80"},
		{1, Reply{ID: 9, Account: api.Account{Nonce: 3, Balance: api.Word{D: 1}, Code: "code"}}, "\x3e\xab\x0d\xb0\xe8\x09\x03\xa0" + zeros + "\x01\x84code"},
		{1, Reply{ID: 9, Account: api.Account{Nonce: 300, Balance: api.Word{D: 1}, Code: "\x00"}}, "\xb8\x53\xf6\x89\xe6\x09\x82\x01\x2c\xa0" + zeros + "\x01\x00"},
		{2, Reply{}, "\xc2\x53\x01\x2f\xe2\x80\xa0" + zeros + "\x00"},
		{2, Reply{ID: 9, Value: api.Word{D: 5}}, "\x9f\x19\xe0\x3e\xe2\x09\xa0" + zeros + "\x05"},
	} {
		replyPut(t, c.kind, c.r, c.want)
	}
}

func TestReplyOfAllFields(t *testing.T) {
	for _, n := range numbers() {
		for _, w := range words() {
			for _, r := range []Reply{
				{ID: n, Account: api.Account{Nonce: 7, Balance: w, Code: "code"}},
				{ID: 7, Account: api.Account{Nonce: n, Balance: w}},
			} {
				replyPut(t, 1, r, modelReply(1, r))
			}
			r := Reply{ID: n, Value: w}
			replyPut(t, 2, r, modelReply(2, r))
		}
	}
}

func TestReplyOfCodes(t *testing.T) {
	for b := range 256 {
		r := Reply{ID: 1, Account: api.Account{Code: string([]byte{byte(b)})}}
		replyPut(t, 1, r, modelReply(1, r))
	}
	for _, size := range []int{0, 1, 2, 17, 18, 19, 20, 54, 55, 56, 57, 218, 219, 220, 255, 256, 257, 24574, 24575, 24576} {
		for _, code := range []string{mixed(size), strings.Repeat("\x00", size), strings.Repeat("\xff", size)} {
			r := Reply{ID: 1 << 40, Account: api.Account{Nonce: 1, Balance: api.Word{B: 1}, Code: code}}
			replyPut(t, 1, r, modelReply(1, r))
		}
	}
}

func TestReplyOfTooLong(t *testing.T) {
	for _, size := range []int{api.MaxCode + 1, api.MaxCode + 2, api.MaxInit, api.MaxBytes - 50, api.MaxBytes, api.MaxBytes + 1, 1 << 24} {
		r := Reply{ID: 1, Account: api.Account{Code: mixed(size)}}
		replyNotPut(t, 1, r)
		replyNotPut(t, 2, r)
		replyNotGot(t, fmt.Sprint("a code of ", size), 1, modelReply(1, r))
	}
}

func TestReplyOfOtherKinds(t *testing.T) {
	account, value := Reply{ID: 1, Account: api.Account{Nonce: 1}}, Reply{ID: 1, Value: api.Word{D: 1}}
	for _, kind := range otherKinds() {
		for _, r := range []Reply{account, value, {}} {
			replyNotPut(t, kind, r)
			replyNotGot(t, "as of an account", kind, modelReply(1, r))
			replyNotGot(t, "as of a slot", kind, modelReply(2, r))
		}
	}
	for _, r := range []Reply{account, value, {}} {
		replyNotGot(t, "a slot's", 1, modelReply(2, r))
		replyNotGot(t, "an account's", 2, modelReply(1, r))
	}
}

// TestReplyWithBoth: of an account there is no value, of a slot there is nothing of an account.
func TestReplyWithBoth(t *testing.T) {
	for _, w := range words()[1:] {
		replyNotPut(t, 1, Reply{ID: 1, Value: w})
		replyNotPut(t, 1, Reply{ID: 1, Account: api.Account{Nonce: 1}, Value: w})
		replyNotPut(t, 2, Reply{ID: 1, Account: api.Account{Balance: w}})
		replyNotPut(t, 2, Reply{ID: 1, Account: api.Account{Balance: w}, Value: w})
	}
	for _, n := range numbers()[1:] {
		if n > 0 {
			replyNotPut(t, 2, Reply{ID: 1, Account: api.Account{Nonce: n}})
		}
	}
	for _, size := range []int{1, 20, api.MaxCode, api.MaxCode + 1} {
		replyNotPut(t, 2, Reply{ID: 1, Account: api.Account{Code: mixed(size)}})
		replyNotPut(t, 2, Reply{ID: 1, Account: api.Account{Code: strings.Repeat("\x00", size)}})
	}
}

// TestGetReplyOfWhatIsNone: a body that has the right sum, but is none.
func TestGetReplyOfWhatIsNone(t *testing.T) {
	id, nonce, w, code := number(7), number(8), wide(api.Word{D: 9}), text("code")
	for what, body := range map[string]string{
		"nothing":                      "",
		"a text":                       text(id + nonce + w + code),
		"a text of nothing":            text(""),
		"a list of nothing":            list(),
		"an ID alone":                  list(id),
		"an ID, no list":               id,
		"no code":                      list(id, nonce, w),
		"no balance":                   list(id, nonce, code),
		"no nonce":                     list(id, w, code),
		"an item more":                 list(id, nonce, w, code, code),
		"a list more":                  list(id, nonce, w, code, list()),
		"a value's item more":          list(id, w, w),
		"a value's list more":          list(id, w, list()),
		"a value first":                list(w, id),
		"a nonce for a value":          list(id, nonce),
		"a list in a list":             list(list(id, nonce, w, code)),
		"a value's list in a list":     list(list(id, w)),
		"more behind":                  list(id, nonce, w, code) + "\x80",
		"more behind a value":          list(id, w) + "\x80",
		"the code ahead":               list(id, nonce, code, w),
		"the balance ahead":            list(id, w, nonce, code),
		"an ID with a byte 0 ahead":    list(text("\x00\x07"), nonce, w, code),
		"an ID of a byte 0":            list(text("\x00"), w),
		"an ID of nine bytes":          list(text("\x01\x00\x00\x00\x00\x00\x00\x00\x07"), w),
		"an ID that is a list":         list(list(), w),
		"an ID in a list":              list(list(id), nonce, w, code),
		"a nonce with a byte 0 ahead":  list(id, text("\x00\x08"), w, code),
		"a nonce of nine bytes":        list(id, text("\x01\x00\x00\x00\x00\x00\x00\x00\x08"), w, code),
		"a nonce that is a list":       list(id, list(), w, code),
		"a balance as a number":        list(id, nonce, number(9), code),
		"a balance of 31 bytes":        list(id, nonce, text(strings.Repeat("\x01", 31)), code),
		"a balance of 33 bytes":        list(id, nonce, text(strings.Repeat("\x00", 33)), code),
		"a balance that is a list":     list(id, nonce, list(), code),
		"a value as a number":          list(id, number(9)),
		"a value of nothing":           list(id, text("")),
		"a value of 31 bytes":          list(id, text(strings.Repeat("\x01", 31))),
		"a value of 33 bytes":          list(id, text("\x00"+strings.Repeat("\x01", 32))),
		"a value that is a list":       list(id, list()),
		"a value in a list":            list(id, list(w)),
		"a code that is a list":        list(id, nonce, w, list()),
		"a code in a list":             list(id, nonce, w, list(code)),
		"a code as a long form":        "\xe9\x07\x08" + w + "\xb8\x04code",
		"a list as a long form":        "\xf8\x22\x07" + w,
		"an ID as a long form":         "\xe3\x81\x07" + w,
		"an ID as of 0, not of no one": "\xe2\x00" + w,
		"a kind too":                   list(id, number(2), w),
		"a sum within":                 withSum(list(id, w)),
		"an ask":                       list(id, number(1), text(addr)),
		"more than is decoded":         list(id, nonce, w, text(mixed(api.MaxBytes))),
	} {
		replyNotGot(t, what, 1, withSum(body))
		replyNotGot(t, what, 2, withSum(body))
	}
}

// TestReplyOfOtherSums: the sum is of all the body, and of nothing else, and stands ahead of it, the highest byte first.
func TestReplyOfOtherSums(t *testing.T) {
	low := func(n uint32) string { return string(binary.LittleEndian.AppendUint32(nil, n)) }
	high := func(n uint32) string { return string(binary.BigEndian.AppendUint32(nil, n)) }
	sum := func(s string) uint32 { return crc32.ChecksumIEEE([]byte(s)) }
	for kind := 1; kind <= 2; kind++ {
		body := modelReply(kind, Reply{ID: 3})[4:]
		for i, s := range []string{
			body, body + high(sum(body)), low(sum(body)) + body, high(^sum(body)) + body, high(0) + body, high(math.MaxUint32) + body,
			high(sum(body[1:])) + body, high(sum("")) + body, high(sum(high(sum(body))+body)) + body,
			high(crc32.Checksum([]byte(body), crc32.MakeTable(crc32.Castagnoli))) + body,
			high(sum(body))[1:] + body, high(sum(body)) + "\x00" + body, "\x00" + high(sum(body)) + body,
			high(sum(body)), high(sum(body))[:3], high(sum("")), "\x00",
		} {
			replyNotGot(t, fmt.Sprint("number ", i), kind, s)
		}
	}
}

// judgeReply is the reply that is put as s by the model: all that it could be are tried.
func judgeReply(kind int, s string) (Reply, bool) {
	if len(s) < 4 || withSum(s[4:]) != s {
		return Reply{}, false
	}
	for _, r := range guesses(kind, s[4:]) {
		if len(r.Account.Code) <= api.MaxCode && modelReply(kind, r) == s {
			return r, true
		}
	}
	return Reply{}, false
}

// guesses are what a body may be, each field having as many bytes as there could be.
func guesses(kind int, body string) (out []Reply) {
	numberOf := func(s string) uint64 {
		if len(s) > 1 || s == "\x80" {
			s = s[1:]
		}
		return new(big.Int).SetBytes([]byte(s)).Uint64()
	}
	for ahead := 1; ahead <= 3; ahead++ {
		for id := ahead + 1; id <= ahead+9; id++ {
			if kind == 2 && len(body) == id+33 {
				out = append(out, Reply{ID: numberOf(body[ahead:id]), Value: wordOf(body[id+1:])})
			}
			for nonce := id + 1; kind == 1 && nonce <= id+9; nonce++ {
				if nonce >= len(body) || body[nonce] != 160 {
					continue
				}
				for code := nonce + 33; code <= nonce+36 && code <= len(body); code++ {
					a := api.Account{Nonce: numberOf(body[id:nonce]), Balance: wordOf(body[nonce+1:]), Code: body[code:]}
					out = append(out, Reply{ID: numberOf(body[ahead:id]), Account: a})
				}
			}
		}
	}
	return out
}

// TestGetReplyOfNearly: bodies about one, each with the sum that it asks for.
func TestGetReplyOfNearly(t *testing.T) {
	replies := 0
	for _, r := range []Reply{
		{}, {ID: 127, Account: api.Account{Nonce: 128, Balance: api.Word{A: 1}, Code: "\x01"}},
		{ID: 1 << 63, Account: api.Account{Nonce: 1, Balance: api.Word{D: 1}, Code: mixed(21)}},
		{Value: api.Word{D: 1}}, {ID: 1, Value: wordOf(mixed(32))}, {ID: 128, Value: api.Word{A: 1}}, {ID: math.MaxUint64, Value: api.Word{B: 1}},
	} {
		for kind := 1; kind <= 2; kind++ {
			nearly(modelReply(kind, r)[4:], func(near string) {
				s := withSum(near)
				want, is := judgeReply(kind, s)
				if got, ok := GetReply(kind, s); got != want || ok != is {
					t.Errorf("%d %x: %s, %v, not %s, %v", kind, s, shown(got), ok, shown(want), is)
				}
				if is {
					replies++
				}
			})
		}
	}
	if replies < 50000 {
		t.Errorf("only %d of them are replies", replies)
	}
}

// P8.3

func TestPutIsGot(t *testing.T) {
	seed := uint64(0x9e3779b97f4a7c15)
	some := func() uint64 { return next(&seed) >> (next(&seed) % 64) }
	someWord := func() api.Word { return api.Word{A: some(), B: some(), C: some(), D: some()} }
	for range 3000 {
		a := Ask{ID: some(), Addr: mixed(int(some()%1000) + 20)[:20], Kind: int(1 + next(&seed)%2)}
		if a.Kind == 2 {
			a.Slot = someWord()
		}
		askPut(t, a, modelAsk(a))
		one := Reply{ID: some(), Account: api.Account{Nonce: some(), Balance: someWord(), Code: mixed(int(some() % 500))}}
		replyPut(t, 1, one, modelReply(1, one))
		two := Reply{ID: some(), Value: someWord()}
		replyPut(t, 2, two, modelReply(2, two))
	}
}

// turned is s with that bit turned.
func turned(s string, bit int) string {
	out := []byte(s)
	out[bit/8] ^= 1 << (bit % 8)
	return string(out)
}

func TestReplyOfTurnedBit(t *testing.T) {
	for i, c := range []struct {
		kind int
		r    Reply
	}{
		{1, Reply{}}, {1, Reply{ID: 9, Account: api.Account{Nonce: 3, Balance: api.Word{A: 1}, Code: "code"}}},
		{1, Reply{ID: 1 << 40, Account: api.Account{Nonce: 1 << 40, Balance: wordOf(mixed(32)), Code: mixed(300)}}},
		{2, Reply{}}, {2, Reply{ID: 9, Value: api.Word{D: 5}}}, {2, Reply{ID: math.MaxUint64, Value: wordOf(mixed(32))}},
	} {
		s, _ := PutReply(c.kind, c.r)
		for bit := range 8 * len(s) {
			replyNotGot(t, fmt.Sprint("number ", i, ", bit ", bit), c.kind, turned(s, bit))
			replyNotGot(t, fmt.Sprint("number ", i, ", bit ", bit, ", of the other kind"), 3-c.kind, turned(s, bit))
		}
	}
	s, _ := PutReply(1, Reply{ID: 1, Account: api.Account{Code: mixed(api.MaxCode)}})
	for bit := 0; bit < 8*len(s); bit += 101 {
		replyNotGot(t, fmt.Sprint("the longest, bit ", bit), 1, turned(s, bit))
	}
}

// TestReplyCut: each piece that a reply's bytes begin with is none, nor is one with more behind.
func TestReplyCut(t *testing.T) {
	for kind, r := range map[int]Reply{1: {ID: 300, Account: api.Account{Nonce: 1, Code: mixed(60)}}, 2: {ID: 300, Value: api.Word{D: 1}}} {
		s := modelReply(kind, r)
		for size := range len(s) {
			replyNotGot(t, fmt.Sprint("cut at ", size), kind, s[:size])
			replyNotGot(t, fmt.Sprint("from ", size+1), kind, s[size+1:])
		}
		for _, more := range []string{"\x00", "\x80", "\xc0", s} {
			replyNotGot(t, "more", kind, s+more)
		}
	}
}

// TestAnyBytes: no bytes, few or many, make a call panic, or not end.
func TestAnyBytes(t *testing.T) {
	texts := []string{"\xff\xff\xff\xff\xff\xff\xff\xff\xff", strings.Repeat("\xc1", 65000), strings.Repeat("\xc0", api.MaxBytes+1), mixed(1 << 24)}
	for n := range 1 << 16 {
		texts = append(texts, string([]byte{byte(n >> 8), byte(n)}))
	}
	for size := range 500 {
		texts = append(texts, mixed(size), strings.Repeat("\x00", size), strings.Repeat("\xff", size))
	}
	for _, s := range texts {
		askNotGot(t, "an ask", s)
		for _, kind := range []int{0, 1, 2} {
			replyNotGot(t, "a reply", kind, s)
			if len(s) < 600 {
				replyNotGot(t, "a reply with the right sum", kind, withSum(s))
			}
		}
	}
}

// TestGotIsNew: what is told shares no memory with what was handed in.
func TestGotIsNew(t *testing.T) {
	inside := func(s, all string) bool {
		from, place := uintptr(unsafe.Pointer(unsafe.StringData(all))), uintptr(unsafe.Pointer(unsafe.StringData(s)))
		return place >= from && place < from+uintptr(len(all))
	}
	s := modelAsk(Ask{ID: 1, Addr: addr, Kind: 1})
	if a, _ := GetAsk(s); inside(a.Addr, s) {
		t.Error("an address is a part of what was handed in")
	}
	s = modelReply(1, Reply{ID: 1, Account: api.Account{Code: "code"}})
	if r, _ := GetReply(1, s); inside(r.Account.Code, s) {
		t.Error("a code is a part of what was handed in")
	}
	a := Ask{Addr: mixed(20), Kind: 1}
	if s, _ := PutAsk(a); inside(a.Addr, s) {
		t.Error("an ask's bytes are about its address")
	}
}

// TestAgain: each call tells the same again, whatever was told between.
func TestAgain(t *testing.T) {
	var told [3][]string
	for i := range told {
		for kind := 1; kind <= 2; kind++ {
			s, _ := PutAsk(Ask{ID: 1, Addr: addr, Kind: kind})
			a, _ := GetAsk(s)
			bytes, _ := PutReply(kind, Reply{ID: 1})
			r, _ := GetReply(kind, bytes)
			GetReply(kind, bytes[1:])
			told[i] = append(told[i], fmt.Sprintf("%x %v %x %v", s, a, bytes, r))
		}
	}
	if !slices.Equal(told[0], told[1]) || !slices.Equal(told[1], told[2]) {
		t.Error(told)
	}
}

func BenchmarkGetReply(b *testing.B) {
	s := modelReply(1, Reply{ID: 1, Account: api.Account{Code: mixed(api.MaxCode)}})
	b.SetBytes(int64(len(s)))
	for b.Loop() {
		GetReply(1, s)
	}
}
