package op

import (
	"maps"
	"strconv"
)

const (
	rows        = 16
	lengthOfRow = 16
	logs        = 5
)

// all is what all codes are, by code.
func all() map[byte]Info {
	infos := map[byte]Info{}
	for half := range rows {
		maps.Copy(infos, row(byte(half)))
	}
	return infos
}

// row is what those codes are, by code, that have that upper half: a call that asks for one code alone makes just its
// row, as to make all of them would take it some twenty times as long.
func row(half byte) map[byte]Info {
	first := half * lengthOfRow
	switch half {
	case 0x0:
		return reckoning()
	case 0x1:
		return comparing()
	case 0x2:
		return map[byte]Info{0x20: {"KECCAK256", 30, 2, 1}}
	case 0x3:
		return surroundings()
	case 0x4:
		return blocks()
	case 0x5:
		return places()
	case 0x6, 0x7:
		return family(first, lengthOfRow, func(i int) Info {
			return Info{"PUSH" + strconv.Itoa(int(first)-push0+i), 3, 0, 1}
		})
	case 0x8:
		return family(first, lengthOfRow, func(i int) Info { return Info{"DUP" + strconv.Itoa(i+1), 3, i + 1, i + 2} })
	case 0x9:
		return family(first, lengthOfRow, func(i int) Info { return Info{"SWAP" + strconv.Itoa(i+1), 3, i + 2, i + 2} })
	case 0xa:
		return family(first, logs, func(i int) Info { return Info{"LOG" + strconv.Itoa(i), 375, i + 2, 0} })
	case 0xf:
		return calling()
	}
	return nil
}

// family is what so many codes from first on are, each of them told by its place among them.
func family(first byte, many int, of func(i int) Info) map[byte]Info {
	infos := make(map[byte]Info, many)
	for i := range many {
		infos[first+byte(i)] = of(i)
	}
	return infos
}

func reckoning() map[byte]Info {
	return map[byte]Info{
		0x00: {"STOP", 0, 0, 0},
		0x01: {"ADD", 3, 2, 1},
		0x02: {"MUL", 5, 2, 1},
		0x03: {"SUB", 3, 2, 1},
		0x04: {"DIV", 5, 2, 1},
		0x05: {"SDIV", 5, 2, 1},
		0x06: {"MOD", 5, 2, 1},
		0x07: {"SMOD", 5, 2, 1},
		0x08: {"ADDMOD", 8, 3, 1},
		0x09: {"MULMOD", 8, 3, 1},
		0x0a: {"EXP", 10, 2, 1},
		0x0b: {"SIGNEXTEND", 5, 2, 1},
	}
}

func comparing() map[byte]Info {
	return map[byte]Info{
		0x10: {"LT", 3, 2, 1},
		0x11: {"GT", 3, 2, 1},
		0x12: {"SLT", 3, 2, 1},
		0x13: {"SGT", 3, 2, 1},
		0x14: {"EQ", 3, 2, 1},
		0x15: {"ISZERO", 3, 1, 1},
		0x16: {"AND", 3, 2, 1},
		0x17: {"OR", 3, 2, 1},
		0x18: {"XOR", 3, 2, 1},
		0x19: {"NOT", 3, 1, 1},
		0x1a: {"BYTE", 3, 2, 1},
		0x1b: {"SHL", 3, 2, 1},
		0x1c: {"SHR", 3, 2, 1},
		0x1d: {"SAR", 3, 2, 1},
	}
}

func surroundings() map[byte]Info {
	return map[byte]Info{
		0x30: {"ADDRESS", 2, 0, 1},
		0x31: {"BALANCE", 0, 1, 1},
		0x32: {"ORIGIN", 2, 0, 1},
		0x33: {"CALLER", 2, 0, 1},
		0x34: {"CALLVALUE", 2, 0, 1},
		0x35: {"CALLDATALOAD", 3, 1, 1},
		0x36: {"CALLDATASIZE", 2, 0, 1},
		0x37: {"CALLDATACOPY", 3, 3, 0},
		0x38: {"CODESIZE", 2, 0, 1},
		0x39: {"CODECOPY", 3, 3, 0},
		0x3a: {"GASPRICE", 2, 0, 1},
		0x3b: {"EXTCODESIZE", 0, 1, 1},
		0x3c: {"EXTCODECOPY", 0, 4, 0},
		0x3d: {"RETURNDATASIZE", 2, 0, 1},
		0x3e: {"RETURNDATACOPY", 3, 3, 0},
		0x3f: {"EXTCODEHASH", 0, 1, 1},
	}
}

func blocks() map[byte]Info {
	return map[byte]Info{
		0x40: {"BLOCKHASH", 20, 1, 1},
		0x41: {"COINBASE", 2, 0, 1},
		0x42: {"TIMESTAMP", 2, 0, 1},
		0x43: {"NUMBER", 2, 0, 1},
		0x44: {"PREVRANDAO", 2, 0, 1},
		0x45: {"GASLIMIT", 2, 0, 1},
		0x46: {"CHAINID", 2, 0, 1},
		0x47: {"SELFBALANCE", 5, 0, 1},
		0x48: {"BASEFEE", 2, 0, 1},
	}
}

func places() map[byte]Info {
	return map[byte]Info{
		0x50:     {"POP", 2, 1, 0},
		0x51:     {"MLOAD", 3, 1, 1},
		0x52:     {"MSTORE", 3, 2, 0},
		0x53:     {"MSTORE8", 3, 2, 0},
		0x54:     {"SLOAD", 0, 1, 1},
		0x55:     {"SSTORE", 0, 2, 0},
		0x56:     {"JUMP", 8, 1, 0},
		0x57:     {"JUMPI", 10, 2, 0},
		0x58:     {"PC", 2, 0, 1},
		0x59:     {"MSIZE", 2, 0, 1},
		0x5a:     {"GAS", 2, 0, 1},
		jumpDest: {"JUMPDEST", 1, 0, 0},
		push0:    {"PUSH0", 2, 0, 1},
	}
}

func calling() map[byte]Info {
	return map[byte]Info{
		0xf0: {"CREATE", 32000, 3, 1},
		0xf1: {"CALL", 0, 7, 1},
		0xf2: {"CALLCODE", 0, 7, 1},
		0xf3: {"RETURN", 0, 2, 0},
		0xf4: {"DELEGATECALL", 0, 6, 1},
		0xf5: {"CREATE2", 32000, 4, 1},
		0xfa: {"STATICCALL", 0, 6, 1},
		0xfd: {"REVERT", 0, 2, 0},
		0xfe: {"INVALID", 0, 0, 0},
		0xff: {"SELFDESTRUCT", 5000, 1, 0},
	}
}
