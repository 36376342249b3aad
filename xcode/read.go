package xcode

import (
	"oubliette/api"
)

// room is more bytes than any instruction has.
const room = 16

// read: the instruction that b begins with, if it begins with one; else anything.
func read(b string) (x api.X) {
	var all [room]byte
	// What is missing counts as 0: who writes x again finds that it is missing.
	copy(all[:], b)
	prefix, in := takeREX(all[:])
	first, in := takeCode(in)
	mod, middle, last := split(in[0])
	x.Op, x.C = find(first, mod, middle)
	x.Wide = prefix&rexWide != 0
	switch x.Op {
	case api.XMovI:
		x.R = upper(prefix, rexLast) + first%8
		x.N = join(in[:8])
	case api.XLoad, api.XStore:
		_, i, base := split(in[1])
		x.R = upper(prefix, rexMiddle) + middle
		x.B = upper(prefix, rexLast) + base
		x.I = indexField(upper(prefix, rexIndex) + i)
		in = in[2:]
	case api.XMov, api.XAlu, api.XTest, api.XMul, api.XSet, api.XByte, api.XCmov, api.XWiden:
		x.R = upper(prefix, rexMiddle) + middle
		fallthrough
	case api.XAluI, api.XShift, api.XDiv, api.XIdiv:
		x.B = upper(prefix, rexLast) + last
		in = in[1:]
	}
	if has32(x.Op) {
		x.N = int(int32(join(in[:4])))
	}
	return x
}

// takeREX: the byte REX, and what stands behind it; if there is none, one that says nothing.
func takeREX(in []byte) (prefix int, rest []byte) {
	if in[0]&0xf0 == rexAlone {
		return int(in[0]), in[1:]
	}
	return rexAlone, in
}

// takeCode: the one or two bytes that say which instruction it is, as code tells them, and what stands behind them.
func takeCode(in []byte) (first int, rest []byte) {
	if in[0] == firstOfTwo {
		return int(in[0])<<8 | int(in[1]), in[2:]
	}
	return int(in[0]), in[1:]
}

// split: the three parts of a byte that mr made.
func split(b byte) (mod, middle, last int) { return int(b >> 6), int(b >> 3 & 7), int(b & 7) }

// find: the kind of instruction that has a code and these parts of MR, and its C; 0, if there is none.
func find(first, mod, middle int) (op, c int) {
	switch first {
	case codeMov:
		if mod == atPlace {
			return api.XStore, 0
		}
		return api.XMov, 0
	case codeDiv:
		if middle == middleDiv {
			return api.XDiv, 0
		}
		// Any other middle counts as XIdiv's: who writes the instruction again finds which it was.
		return api.XIdiv, 0
	case codeAluI:
		return api.XAluI, middle
	case codeShift:
		return api.XShift, middle
	}
	switch {
	case first&^7 == codeMovI:
		return api.XMovI, 0
	case first&^(7<<3) == codeAlu:
		return api.XAlu, first >> 3
	case first&^15 == codeCmov:
		return api.XCmov, first & 15
	case first&^15 == codeJcc:
		return api.XJcc, first & 15
	case first&^15 == codeSet:
		return api.XSet, first & 15
	}
	return findPlain(first), 0
}

// findPlain: the kind of instruction that alone has a code; 0, if there is none.
func findPlain(first int) int {
	switch first {
	case codeTest:
		return api.XTest
	case codeMul:
		return api.XMul
	case codeSign:
		return api.XSign
	case codeLoad:
		return api.XLoad
	case codeByte:
		return api.XByte
	case codeWiden:
		return api.XWiden
	case codeJmp:
		return api.XJmp
	case codeCall:
		return api.XCall
	case codeRet:
		return api.XRet
	case codeHlt:
		return api.XHlt
	case codeStop:
		return api.XStop
	case codeHost:
		return api.XHost
	}
	return 0
}

// upper: 8, if REX says that a register is above 7.
func upper(prefix, bit int) int {
	if prefix&bit != 0 {
		return 8
	}
	return 0
}

// indexField is I of an index as indexOf tells it.
func indexField(i int) int {
	if i == noIndex {
		return 0
	}
	return i + 1
}

// join: the number whose bytes these are, the least first.
func join(b []byte) int {
	n := 0
	for i, v := range b {
		n |= int(v) << (8 * i)
	}
	return n
}
