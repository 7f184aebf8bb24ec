package rlp

// What stands ahead of an item tells by its first byte whether it is a text or a list, and how many bytes it has: up to
// shortMost by that byte alone, above it by as many bytes behind it as that byte tells.
const (
	textHead  = 128
	listHead  = 192
	shortMost = 55
)

// head is what stands ahead of so many bytes of a text, or of a list.
func head(kind byte, size int) string {
	if size <= shortMost {
		return string([]byte{kind + byte(size)})
	}
	number := Number(uint64(size)).S
	return string([]byte{kind + shortMost + byte(len(number))}) + number
}

// bare tells whether a text is its one byte, with nothing ahead: that byte can't begin anything else.
func bare(s string) bool { return len(s) == 1 && s[0] < textHead }

// headOf is what stands ahead of a text.
func headOf(s string) string {
	if bare(s) {
		return ""
	}
	return head(textHead, len(s))
}
