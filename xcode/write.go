package xcode

import (
	"oubliette/api"
)

// The bytes that say which instruction it is; where there are two of them, the first is the upper half. Some have a kind, a condition or a register among their bits.
const (
	codeAlu   = 0x01
	codeWiden = 0x63
	codeAluI  = 0x81
	codeTest  = 0x85
	codeMov   = 0x89 // XStore's too
	codeLoad  = 0x8b
	codeSign  = 0x99
	codeMovI  = 0xb8
	codeRet   = 0xc3
	codeHost  = 0xcc
	codeShift = 0xd3
	codeCall  = 0xe8
	codeJmp   = 0xe9
	codeHlt   = 0xf4
	codeDiv   = 0xf7 // XIdiv's too
	codeStop  = 0x0f0b
	codeCmov  = 0x0f40
	codeJcc   = 0x0f80
	codeSet   = 0x0f90
	codeMul   = 0x0faf
	codeByte  = 0x0fb6
)

// firstOfTwo is what each code of two bytes begins with, and none of one byte is.
const firstOfTwo = 0x0f

// REX, and what it says: that the instruction is wide, and that the register in the middle of MR, the index, and the last register are above 7.
const (
	rexAlone  = 0x40
	rexWide   = 8
	rexMiddle = 4
	rexIndex  = 2
	rexLast   = 1
)

// Ways of MR, and what its last part is where a byte with index and register stands behind it.
const (
	atRegisters = 3
	atPlace     = 2
	withIndex   = 4
)

// noIndex stands where an index would, if there is none.
const noIndex = 4

// XDiv and XIdiv have one code: what stands in the middle of MR tells them apart.
const (
	middleDiv  = 6
	middleIdiv = 7
)

// code: the bytes that say which instruction x is; x is right.
func code(x api.X) int {
	switch x.Op {
	case api.XMov, api.XStore:
		return codeMov
	case api.XMovI:
		return codeMovI + x.R%8
	case api.XAlu:
		return codeAlu + 8*x.C
	case api.XAluI:
		return codeAluI
	case api.XTest:
		return codeTest
	case api.XMul:
		return codeMul
	case api.XShift:
		return codeShift
	case api.XDiv, api.XIdiv:
		return codeDiv
	case api.XSign:
		return codeSign
	case api.XLoad:
		return codeLoad
	case api.XSet:
		return codeSet + x.C
	case api.XByte:
		return codeByte
	case api.XCmov:
		return codeCmov + x.C
	case api.XWiden:
		return codeWiden
	case api.XJmp:
		return codeJmp
	case api.XJcc:
		return codeJcc + x.C
	case api.XCall:
		return codeCall
	case api.XRet:
		return codeRet
	case api.XHlt:
		return codeHlt
	case api.XStop:
		return codeStop
	}
	return codeHost
}

// write lays the bytes of x, which is right, behind out.
func write(out []byte, x api.X) []byte {
	middle := x.R
	switch x.Op {
	case api.XMovI:
		return number(put(out, rex(x.Wide, 0, 0, x.R), code(x)), x.N, 8)
	case api.XIdiv:
		middle = middleIdiv - middleDiv
		fallthrough
	case api.XDiv:
		middle += middleDiv
		fallthrough
	case api.XAluI, api.XShift:
		// No kind is above 7: REX says nothing of it, and so these are of the form of two registers.
		middle += x.C
		fallthrough
	case api.XMov, api.XAlu, api.XTest, api.XMul, api.XSet, api.XByte, api.XCmov, api.XWiden:
		out = put(out, rex(x.Wide, middle, 0, x.B), code(x), mr(atRegisters, middle, x.B))
	case api.XLoad, api.XStore:
		i := indexOf(x)
		out = put(out, rex(x.Wide, x.R, i, x.B), code(x), mr(atPlace, x.R, withIndex), mr(0, i, x.B))
	default:
		out = put(out, rex(x.Wide, 0, 0, 0), code(x))
	}
	if has32(x.Op) {
		out = number(out, x.N, 4)
	}
	return out
}

// put lays REX, if it says anything, and the others behind out: each is one byte, or two, the upper one first, if it is above FF.
func put(out []byte, prefix int, others ...int) []byte {
	if prefix != rexAlone {
		out = append(out, byte(prefix))
	}
	for _, o := range others {
		if o > 0xff {
			out = append(out, byte(o>>8))
		}
		out = append(out, byte(o))
	}
	return out
}

// number lays the low bytes of n behind out, the least first.
func number(out []byte, n, size int) []byte {
	for i := range size {
		out = append(out, byte(n>>(8*i)))
	}
	return out
}

func rex(wide bool, middle, index, last int) int {
	out := rexAlone
	if wide {
		out += rexWide
	}
	if middle > 7 {
		out += rexMiddle
	}
	if index > 7 {
		out += rexIndex
	}
	if last > 7 {
		out += rexLast
	}
	return out
}

func mr(mod, middle, last int) int { return mod<<6 | middle%8<<3 | last%8 }

// indexOf: the register that is x's index, or what says that there is none.
func indexOf(x api.X) int {
	if x.I == 0 {
		return noIndex
	}
	return x.I - 1
}
