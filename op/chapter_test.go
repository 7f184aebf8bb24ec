package op

import (
	"fmt"
	"strconv"
	"strings"
	"testing"
)

// chapter is the table of P12.1, in its own words: codes, names, and gas, in and out, either of all of them or of each.
const chapter = `
00 | STOP | 0 0 0
01, 03 | ADD, SUB | 3 2 1
02, 04 to 07, 0b | MUL, DIV, SDIV, MOD, SMOD, SIGNEXTEND | 5 2 1
08, 09 | ADDMOD, MULMOD | 8 3 1
0a | EXP | 10 2 1
10 to 14, 16 to 18, 1a to 1d | LT, GT, SLT, SGT, EQ, AND, OR, XOR, BYTE, SHL, SHR, SAR | 3 2 1
15, 19 | ISZERO, NOT | 3 1 1
20 | KECCAK256 | 30 2 1
30, 32 to 34, 36, 38, 3a, 3d | ADDRESS, ORIGIN, CALLER, CALLVALUE, CALLDATASIZE, CODESIZE, GASPRICE, RETURNDATASIZE | 2 0 1
31, 3b, 3f | BALANCE, EXTCODESIZE, EXTCODEHASH | 0 1 1
35 | CALLDATALOAD | 3 1 1
37, 39, 3e | CALLDATACOPY, CODECOPY, RETURNDATACOPY | 3 3 0
3c | EXTCODECOPY | 0 4 0
40 | BLOCKHASH | 20 1 1
41 to 46, 48, 58 to 5a | COINBASE, TIMESTAMP, NUMBER, PREVRANDAO, GASLIMIT, CHAINID, BASEFEE, PC, MSIZE, GAS | 2 0 1
47 | SELFBALANCE | 5 0 1
50 | POP | 2 1 0
51, 52, 53 | MLOAD, MSTORE, MSTORE8 | 3 1 1; 3 2 0; 3 2 0
54, 55 | SLOAD, SSTORE | 0 1 1; 0 2 0
56, 57, 5b | JUMP, JUMPI, JUMPDEST | 8 1 0; 10 2 0; 1 0 0
5f | PUSH0 | 2 0 1
60 to 7f | PUSH1 to PUSH32 | 3 0 1
80 to 8f | DUP1 to DUP16 | 3 n n+1
90 to 9f | SWAP1 to SWAP16 | 3 n+1 n+1
a0 to a4 | LOG0 to LOG4 | 375 n+2 0
f0, f5 | CREATE, CREATE2 | 32000 3 1; 32000 4 1
f1, f2 | CALL, CALLCODE | 0 7 1
f3, fd | RETURN, REVERT | 0 2 0
f4, fa | DELEGATECALL, STATICCALL | 0 6 1
fe | INVALID | 0 0 0
ff | SELFDESTRUCT | 5000 1 0`

// told is the chapter's table by code: an Info without a name is none.
func told(t *testing.T) [256]Info {
	t.Helper()
	var out [256]Info
	for _, row := range strings.Split(strings.TrimSpace(chapter), "\n") {
		parts := strings.Split(row, " | ")
		codes, names, costs := codesOf(t, parts[0]), namesOf(t, parts[1]), strings.Split(parts[2], "; ")
		if len(codes) != len(names) || len(costs) != 1 && len(costs) != len(names) {
			t.Fatalf("%s: %d codes, %d names, %d costs", row, len(codes), len(names), len(costs))
		}
		for i, code := range codes {
			if out[code].Name != "" {
				t.Fatalf("%02x stands there twice", code)
			}
			out[code] = infoOf(t, names[i], costs[i%len(costs)])
		}
	}
	return out
}

func codesOf(t *testing.T, s string) []byte {
	t.Helper()
	var out []byte
	for _, part := range strings.Split(s, ", ") {
		from, to, many := strings.Cut(part, " to ")
		if !many {
			to = from
		}
		for code := number(t, from, 16); code <= number(t, to, 16); code++ {
			out = append(out, byte(code))
		}
	}
	return out
}

func namesOf(t *testing.T, s string) []string {
	t.Helper()
	from, to, many := strings.Cut(s, " to ")
	if !many {
		return strings.Split(s, ", ")
	}
	word := strings.TrimRight(from, "0123456789")
	var out []string
	for n := number(t, from[len(word):], 10); n <= number(t, to[len(word):], 10); n++ {
		out = append(out, word+strconv.Itoa(n))
	}
	return out
}

// infoOf reads gas, in and out, where n is the number at the name's end.
func infoOf(t *testing.T, name, cost string) Info {
	t.Helper()
	var got [3]int
	for i, part := range strings.Fields(cost) {
		if rest, ok := strings.CutPrefix(part, "n"); ok {
			got[i] = numberOf(t, name)
			part = "0" + strings.TrimPrefix(rest, "+")
		}
		got[i] += number(t, part, 10)
	}
	return Info{Name: name, Gas: uint64(got[0]), In: got[1], Out: got[2]}
}

// numberOf is the number at a name's end.
func numberOf(t *testing.T, name string) int {
	t.Helper()
	return number(t, name[len(strings.TrimRight(name, "0123456789")):], 10)
}

func number(t *testing.T, s string, base int) int {
	t.Helper()
	n, err := strconv.ParseUint(s, base, 31)
	if err != nil {
		t.Fatal(err)
	}
	return int(n)
}

// model tells what the chapter says of codes, by its table alone.
type model struct {
	infos [256]Info
	push  [256]int // how many bytes follow, of no PUSH -1
}

func modelOf(t *testing.T) *model {
	t.Helper()
	m := &model{infos: told(t)}
	for code, info := range m.infos {
		m.push[code] = -1
		if strings.HasPrefix(info.Name, "PUSH") {
			m.push[code] = numberOf(t, info.Name)
		}
	}
	return m
}

// instructions says of each byte whether one begins there: not where a PUSH takes it.
func (m *model) instructions(code string) []bool {
	out := make([]bool, len(code))
	taken := 0
	for i := range len(code) {
		if taken > 0 {
			taken--
			continue
		}
		out[i] = true
		taken = max(m.push[code[i]], 0)
	}
	return out
}

func (m *model) jumps(code string) []int {
	var out []int
	for i, ok := range m.instructions(code) {
		if ok && m.infos[code[i]].Name == "JUMPDEST" {
			out = append(out, i)
		}
	}
	return out
}

func (m *model) text(code string) []string {
	var out []string
	for i, ok := range m.instructions(code) {
		b := code[i]
		switch {
		case !ok:
			out[len(out)-1] += fmt.Sprintf("%02x", b)
		case m.infos[b].Name == "":
			out = append(out, fmt.Sprintf("?%02x", b))
		case m.push[b] > 0:
			out = append(out, m.infos[b].Name+" 0x")
		default:
			out = append(out, m.infos[b].Name)
		}
	}
	return out
}
