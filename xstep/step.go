package xstep

import (
	"oubliette/api"
	"oubliette/flags"
	"oubliette/xcode"
)

// Registers that instructions use without naming them.
const (
	result = 0 // of XSet and XByte; what is divided, and the quotient
	count  = 1 // how far is shifted
	upper  = 2 // what stands above the one that is divided, and the rest
	stack  = 4
)

// nowhere is the address of a leak where nothing was read or written.
const nowhere = -1

// furthest: moved so far, modulo its width, nothing is left of a number but its sign.
const furthest = 63

// step carries out the instruction at which a machine that is Going stands.
func (w *worker) step() api.Leak {
	leak := api.Leak{At: w.At, Addr: nowhere}
	x, n, ok := w.fetch()
	if !ok {
		w.Status = api.Faulted
		return leak
	}
	w.At += n
	switch x.Op {
	case api.XLoad, api.XStore, api.XCall, api.XRet:
		leak.Addr = w.address(x)
		if !w.access(x, leak.Addr) {
			w.At, w.Status = leak.At, api.Faulted
		}
	case api.XDiv, api.XIdiv:
		leak.Num, leak.Den = flags.Trim(x.Wide, w.Regs[result]), flags.Trim(x.Wide, w.Regs[x.B])
		if !w.divide(x) {
			w.At, w.Status = leak.At, api.Divided
		}
	case api.XJmp, api.XJcc:
		if x.Op == api.XJmp || w.holds(x) {
			w.At += x.N
		}
	case api.XHlt:
		w.Status = api.Halted
	case api.XStop:
		w.Status = api.Stopped
	case api.XHost:
		w.Status = api.Asks
	default:
		w.reckon(x)
	}
	return leak
}

// fetch: the instruction at which the machine stands, and how many bytes it has.
func (w *worker) fetch() (x api.X, n int, ok bool) {
	i, place, ok := find(w.Regions, true, w.At, 1)
	if !ok {
		return api.X{}, 0, false
	}
	x, n, e := xcode.Decode(w.Regions[i].Bytes[place:])
	return x, n, e == api.OK
}

// address: where x reads or writes.
func (w *worker) address(x api.X) int {
	switch x.Op {
	case api.XCall:
		return w.Regs[stack] - 8
	case api.XRet:
		return w.Regs[stack]
	}
	at := w.Regs[x.B] + x.N
	if x.I != 0 {
		at += w.Regs[x.I-1]
	}
	return at
}

// access carries out an instruction that reads or writes at an address, At being behind it; false, and nothing is changed, if it may not be read or written there.
func (w *worker) access(x api.X, at int) bool {
	switch x.Op {
	case api.XStore:
		return w.put(at, size(x), w.Regs[x.R])
	case api.XCall:
		if !w.put(at, 8, w.At) {
			return false
		}
		w.Regs[stack] = at
		w.At += x.N
		return true
	case api.XRet:
		back, ok := w.read(at, 8)
		if ok {
			w.At, w.Regs[stack] = back, at+8
		}
		return ok
	}
	v, ok := w.read(at, size(x))
	if ok {
		w.Regs[x.R] = v
	}
	return ok
}

// size: how many bytes a load or a store has.
func size(x api.X) int {
	if x.Wide {
		return 8
	}
	return 4
}

// divide carries out a division; false, and nothing is changed, if it may not be.
func (w *worker) divide(x api.X) bool {
	high, low, by := w.Regs[upper], w.Regs[result], w.Regs[x.B]
	quot, rest, ok := flags.Div(x.Wide, high, low, by)
	if x.Op == api.XIdiv {
		quot, rest, ok = flags.Idiv(x.Wide, high, low, by)
	}
	if ok {
		w.Regs[result], w.Regs[upper] = quot, rest
		w.Flags = api.Flags{}
	}
	return ok
}

// holds: whether x's condition does.
func (w *worker) holds(x api.X) bool {
	is, _ := flags.Holds(x.C, w.Flags)
	return is
}

// reckon carries out an instruction that has to do with registers and flags alone.
func (w *worker) reckon(x api.X) {
	r := &w.Regs
	switch x.Op {
	case api.XMov:
		r[x.B] = flags.Trim(x.Wide, r[x.R])
	case api.XMovI:
		r[x.R] = x.N
	case api.XWiden:
		r[x.R] = int(int32(r[x.B]))
	case api.XAlu:
		w.sum(x, r[x.R])
	case api.XAluI:
		w.sum(x, x.N)
	case api.XTest:
		_, w.Flags, _ = flags.Alu(api.And, x.Wide, r[x.B], r[x.R])
	case api.XMul:
		r[x.R] = flags.Trim(x.Wide, r[x.R]*r[x.B])
		w.Flags = api.Flags{}
	case api.XShift:
		r[x.B], _ = flags.Shift(x.C, x.Wide, r[x.B], r[count])
		w.Flags = api.Flags{}
	case api.XSign:
		r[upper], _ = flags.Shift(api.Sar, x.Wide, r[result], furthest)
	case api.XSet:
		// Only a byte is written, and what stands above it stays, as on the real machine.
		r[result] &^= 0xff
		if w.holds(x) {
			r[result]++
		}
	case api.XByte:
		r[result] &= 0xff
	case api.XCmov:
		from := x.R
		if w.holds(x) {
			from = x.B
		}
		r[x.R] = flags.Trim(x.Wide, r[from])
	}
}

// sum reckons register B with v; of a comparison only the flags are wanted.
func (w *worker) sum(x api.X, v int) {
	out, f, _ := flags.Alu(x.C, x.Wide, w.Regs[x.B], v)
	w.Flags = f
	if x.C != api.Cmp {
		w.Regs[x.B] = out
	}
}
