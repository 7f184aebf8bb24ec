package wire

import (
	"strings"

	"stithy/api"
	"stithy/rlp"
	"stithy/word"
)

// read is the message that s is the bytes of, its fields standing behind the first bytes of s: false, if there is none.
func read[T any](s string, ahead int, take form[T], put func(T) (string, bool)) (got T, ok bool) {
	defer func() {
		if recover() != nil {
			var none T
			got, ok = none, false
		}
	}()
	must(len(s) >= ahead)
	list, e := rlp.Decode(s[ahead:])
	must(e == api.OK)
	f := fields{list.L}
	got = take(f.number, f.text, f.word)
	// What may be put, and as which bytes, is told in one place, by put: whatever it doesn't tell is none.
	again, ok := put(got)
	must(ok && again == s)
	return got, true
}

// must panics, unless it holds; read catches that.
func must(holds bool) {
	if !holds {
		panic(api.ErrForm)
	}
}

// fields takes the items of a list from its front, and panics where there is none.
type fields struct{ left []rlp.Item }

func (f *fields) next() rlp.Item {
	must(len(f.left) > 0)
	i := f.left[0]
	f.left = f.left[1:]
	return i
}

func (f *fields) number() uint64 {
	n, ok := rlp.Small(f.next())
	must(ok)
	return n
}

// text takes a text as new memory: what is decoded shares that of the bytes.
func (f *fields) text() string { return strings.Clone(f.next().S) }

func (f *fields) word() api.Word {
	w, ok := word.Of(f.next().S)
	must(ok)
	return w
}
