package rlp

import "stithy/api"

// deepest is how many lists an item may stand in, to be decoded.
const deepest = 64

// reader takes items from the front of what is left of a text. It panics at bytes that are none; Decode catches that.
type reader struct{ left string }

// must panics, unless it holds.
func must(holds bool) {
	if !holds {
		panic(api.ErrForm)
	}
}

// item takes the next item, that stands in so many lists.
func (r *reader) item(lists int) Item {
	must(lists <= deepest)
	first := r.take(1)
	switch kind := first[0]; {
	case bare(first):
		return Text(first)
	case kind < listHead:
		s := r.body(kind - textHead)
		must(!bare(s))
		return Text(s)
	default:
		inner := reader{r.body(kind - listHead)}
		return Item{List: true, L: inner.items(lists + 1)}
	}
}

// items takes all items that are left, which stand in so many lists.
func (r *reader) items(lists int) []Item {
	var all []Item
	for r.left != "" {
		all = append(all, r.item(lists))
	}
	return all
}

// body takes the bytes of an item, whose first byte is so far above that of an item of none.
func (r *reader) body(above byte) string {
	if above <= shortMost {
		return r.take(uint64(above))
	}
	size, ok := Small(Text(r.take(uint64(above - shortMost))))
	must(ok && size > shortMost)
	return r.take(size)
}

// take takes so many bytes.
func (r *reader) take(size uint64) string {
	must(size <= uint64(len(r.left)))
	taken := r.left[:size]
	r.left = r.left[size:]
	return taken
}
