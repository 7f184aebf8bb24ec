package rlp

import "strings"

const sixteenths = "0123456789abcdef"

// walk goes through an item, and tells of each list that it begins, and ends, and of each text between. It doesn't call
// itself, as a deep item would outgrow the stack of calls.
func walk(i Item, begin func(), text func(s string), end func()) {
	var open [][]Item // what is still to come of each list that has begun
	enter := func(i Item) {
		if !i.List {
			text(i.S)
			return
		}
		begin()
		open = append(open, i.L)
	}
	enter(i)
	for len(open) > 0 {
		last := len(open) - 1
		if len(open[last]) == 0 {
			end()
			open = open[:last]
			continue
		}
		next := open[last][0]
		open[last] = open[last][1:]
		enter(next)
	}
}

// sums finds how many bytes each list has, without what stands ahead of it, as that is to be written first.
type sums struct {
	sizes []int // in the order in which the lists begin
	open  []int // the places, in sizes, of those that haven't ended
}

func (s *sums) begin() {
	s.open = append(s.open, len(s.sizes))
	s.sizes = append(s.sizes, 0)
}

func (s *sums) text(text string) { s.add(len(headOf(text)) + len(text)) }

func (s *sums) end() {
	last := len(s.open) - 1
	size := s.sizes[s.open[last]]
	s.open = s.open[:last]
	s.add(len(head(listHead, size)) + size)
}

// add counts so many bytes to the list that began last.
func (s *sums) add(size int) { s.sizes[s.open[len(s.open)-1]] += size }

// writer writes an item as bytes.
type writer struct {
	out   strings.Builder
	sizes []int // those of the lists that haven't begun
}

func (w *writer) begin() {
	w.out.WriteString(head(listHead, w.sizes[0]))
	w.sizes = w.sizes[1:]
}

func (w *writer) text(s string) {
	w.out.WriteString(headOf(s))
	w.out.WriteString(s)
}

// end writes nothing: a list ends where its size says.
func (w *writer) end() {}

// shower writes an item to look at.
type shower struct {
	out strings.Builder
	gap string // what stands ahead of the next item
}

func (s *shower) begin() {
	s.out.WriteString(s.gap + "[")
	s.gap = ""
}

func (s *shower) text(text string) {
	s.out.WriteString(s.gap + `"`)
	for k := range len(text) {
		s.out.WriteByte(sixteenths[text[k]>>4])
		s.out.WriteByte(sixteenths[text[k]&15])
	}
	s.out.WriteString(`"`)
	s.gap = " "
}

func (s *shower) end() {
	s.out.WriteString("]")
	s.gap = " "
}
