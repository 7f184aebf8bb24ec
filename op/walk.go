package op

import "strings"

const digits = "0123456789abcdef"

// each hands all instructions of code to do, in order: the place of each, and its bytes, of which there is at least one.
func each(code string, do func(at int, instruction string)) {
	for at := 0; at < len(code); {
		many, _ := Push(code[at])
		behind := min(at+1+many, len(code)) // the code may end within a PUSH
		do(at, code[at:behind])
		at = behind
	}
}

// line is an instruction to look at.
func line(infos map[byte]Info, instruction string) string {
	info, ok := infos[instruction[0]]
	if !ok {
		return "?" + sixteenths(instruction)
	}
	if many, _ := Push(instruction[0]); many == 0 {
		return info.Name
	}
	return info.Name + " 0x" + sixteenths(instruction[1:])
}

// sixteenths are two digits for each byte.
func sixteenths(s string) string {
	var out strings.Builder
	out.Grow(2 * len(s))
	for i := range len(s) {
		out.WriteByte(digits[s[i]>>4])
		out.WriteByte(digits[s[i]&0xf])
	}
	return out.String()
}
