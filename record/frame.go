package record

import "strings"

// A frame's head is the size of its text, and a sum, each a number of numberSize bytes.
const (
	numberSize = 4
	headSize   = 2 * numberSize
)

// first is the text of the frame at the front of s: false, if none that is whole and right stands there.
func first(s string) (string, bool) {
	if len(s) < headSize {
		return "", false
	}
	size := number(s[:numberSize])
	if size > uint64(len(s)-headSize) {
		return "", false
	}
	text := s[headSize:][:size]
	// A frame is what Frame tells of its text, and nothing else is one. What is told is cut from that, as it is new
	// memory, and s is not.
	frame, ok := Frame(text)
	if !ok || !strings.HasPrefix(s, frame) {
		return "", false
	}
	return frame[headSize:], true
}

// fourBytes is n, the highest byte first.
func fourBytes(n uint32) string {
	return string([]byte{byte(n >> 24), byte(n >> 16), byte(n >> 8), byte(n)})
}

// number is what bytes are as a number, the highest first.
func number(s string) uint64 {
	var n uint64
	for i := range len(s) {
		n = n<<8 | uint64(s[i])
	}
	return n
}
