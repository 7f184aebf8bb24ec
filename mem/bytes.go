package mem

// end is where size bytes from at on end: false, if there are none, or they would end too far.
func end(at, size uint64) (uint64, bool) {
	if size == 0 || size > mostBytes || at > mostBytes-size {
		return 0, false
	}
	return at + size, true
}

// words is how many words have room for so many bytes.
func words(size uint64) uint64 { return (size + bytesOfWord - 1) / bytesOfWord }

// from tells each byte of s, counted from at on, and 0 for each that is not there.
func from[T string | []byte](s T, at uint64) func(i int) byte {
	there := s[min(at, uint64(len(s))):]
	return func(i int) byte {
		if i < len(there) {
			return there[i]
		}
		return 0
	}
}

// fill lets in all of into stand what s has from at on.
func fill[T string | []byte](into []byte, s T, at uint64) {
	tell := from(s, at)
	for i := range into {
		into[i] = tell(i)
	}
}

// text is the size bytes that s has from at on, in new memory.
func text[T string | []byte](s T, at, size uint64) string {
	out := make([]byte, size)
	fill(out, s, at)
	return string(out)
}
