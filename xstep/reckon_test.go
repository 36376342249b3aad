package xstep_test

import (
	"math/big"
	"slices"

	"oubliette/api"
	"oubliette/xcode"
)

// A reckoning of the chapter's sentences over numbers without bounds, and memories of single bytes.

func number(v int) *big.Int { return big.NewInt(int64(v)) }

func power(n uint) *big.Int { return new(big.Int).Lsh(big.NewInt(1), n) }

func bitsOf(wide bool) uint {
	if wide {
		return 64
	}
	return 32
}

// plain: what is left of n at a width, as a number without a sign.
func plain(wide bool, n *big.Int) *big.Int { return new(big.Int).Mod(n, power(bitsOf(wide))) }

// signed: what is left of n at a width, as a number with a sign.
func signed(wide bool, n *big.Int) *big.Int {
	out := plain(wide, n)
	if out.Bit(int(bitsOf(wide))-1) == 1 {
		out.Sub(out, power(bitsOf(wide)))
	}
	return out
}

// told: what is left of n at a width, as a register has it.
func told(wide bool, n *big.Int) int {
	if wide {
		return int(signed(true, n).Int64())
	}
	return int(plain(false, n).Int64())
}

func kept(wide bool, v int) int { return told(wide, number(v)) }

// liesAt: how far behind the region's beginning n bytes from at on begin, if they all lie in it; else -1.
func liesAt(r api.Region, at, n int) int {
	from := new(big.Int).Sub(number(at), number(r.At))
	to := new(big.Int).Add(from, number(n))
	if from.Sign() < 0 || to.Cmp(number(len(r.Bytes))) > 0 {
		return -1
	}
	return int(from.Int64())
}

// placeOf: in which region that may be read and written n bytes lie, and where; the last is false, if in none.
func placeOf(m api.Machine, at, n int) (region, place int, ok bool) {
	for i, r := range m.Regions {
		if place := liesAt(r, at, n); !r.Code && place >= 0 && (n == 4 || n == 8) {
			return i, place, true
		}
	}
	return 0, 0, false
}

func readThere(m api.Machine, at, n int) (int, bool) {
	i, place, ok := placeOf(m, at, n)
	if !ok {
		return 0, false
	}
	v := new(big.Int)
	for k := range n {
		v.Add(v, new(big.Int).Mul(number(int(m.Regions[i].Bytes[place+k])), power(uint(8*k))))
	}
	return told(n == 8, v), true
}

func putThere(m api.Machine, at, n, v int) (api.Machine, bool) {
	i, place, ok := placeOf(m, at, n)
	if !ok {
		return m, false
	}
	rest, text := plain(true, number(v)), ""
	for k := range len(m.Regions[i].Bytes) {
		if k < place || k >= place+n {
			text += m.Regions[i].Bytes[k : k+1]
			continue
		}
		low := new(big.Int)
		rest.DivMod(rest, number(256), low)
		text += string([]byte{byte(low.Int64())})
	}
	m.Regions = slices.Clone(m.Regions)
	m.Regions[i].Bytes = text
	return m, true
}

// standing: the instruction at which m stands.
func standing(m api.Machine) (x api.X, n int, ok bool) {
	for _, r := range m.Regions {
		if place := liesAt(r, m.At, 1); r.Code && place >= 0 {
			x, n, e := xcode.Decode(r.Bytes[place:])
			return x, n, e == api.OK
		}
	}
	return api.X{}, 0, false
}

// stepped: what Step answers.
func stepped(m api.Machine) (api.Machine, api.Leak) {
	if m.Status != api.Going {
		return m, api.Leak{}
	}
	leak := api.Leak{At: m.At, Addr: -1}
	x, n, ok := standing(m)
	if !ok {
		m.Status = api.Faulted
		return m, leak
	}
	behind := told(true, new(big.Int).Add(number(m.At), number(n)))
	further := told(true, new(big.Int).Add(number(behind), number(x.N)))
	out := m
	out.At = behind
	switch x.Op {
	case api.XJmp:
		out.At = further
	case api.XJcc:
		if met(x.C, m.Flags) {
			out.At = further
		}
	case api.XHlt:
		out.Status = api.Halted
	case api.XStop:
		out.Status = api.Stopped
	case api.XHost:
		out.Status = api.Asks
	case api.XLoad, api.XStore, api.XCall, api.XRet:
		out, leak.Addr, ok = reached(out, x, further)
		if !ok {
			out = m
			out.Status = api.Faulted
		}
	case api.XDiv, api.XIdiv:
		leak.Num, leak.Den = kept(x.Wide, m.Regs[0]), kept(x.Wide, m.Regs[x.B])
		if out, ok = divided(out, x); !ok {
			out = m
			out.Status = api.Divided
		}
	default:
		out = reckoned(out, x)
	}
	return out, leak
}

// reached: m (At behind x) after what x reads or writes, and the address.
func reached(m api.Machine, x api.X, further int) (out api.Machine, addr int, ok bool) {
	n := 4
	if x.Wide {
		n = 8
	}
	sum := new(big.Int).Add(number(m.Regs[x.B]), number(x.N))
	if x.I > 0 {
		sum.Add(sum, number(m.Regs[x.I-1]))
	}
	addr = told(true, sum)
	v := 0
	switch x.Op {
	case api.XLoad:
		v, ok = readThere(m, addr, n)
		m.Regs[x.R] = v
	case api.XStore:
		m, ok = putThere(m, addr, n, m.Regs[x.R])
	case api.XCall:
		addr = told(true, new(big.Int).Sub(number(m.Regs[4]), number(8)))
		m, ok = putThere(m, addr, 8, m.At)
		m.Regs[4], m.At = addr, further
	case api.XRet:
		addr = m.Regs[4]
		m.At, ok = readThere(m, addr, 8)
		m.Regs[4] = told(true, new(big.Int).Add(number(addr), number(8)))
	}
	return m, addr, ok
}

// divided: m after a division, if its quotient fits.
func divided(m api.Machine, x api.X) (api.Machine, bool) {
	by, num := plain(x.Wide, number(m.Regs[x.B])), plain(x.Wide, number(m.Regs[2]))
	num.Add(num.Mul(num, power(bitsOf(x.Wide))), plain(x.Wide, number(m.Regs[0])))
	if x.Op == api.XIdiv {
		by, num = signed(x.Wide, by), signed(x.Wide, number(m.Regs[0]))
		// What stands above must be the sign, so that both together are the number below.
		sign := 0
		if num.Sign() < 0 {
			sign = -1
		}
		if kept(x.Wide, m.Regs[2]) != kept(x.Wide, sign) {
			return m, false
		}
	}
	if by.Sign() == 0 {
		return m, false
	}
	quot, rest := new(big.Int).QuoRem(num, by, new(big.Int))
	fits := plain
	if x.Op == api.XIdiv {
		fits = signed
	}
	if fits(x.Wide, quot).Cmp(quot) != 0 {
		return m, false
	}
	m.Regs[0], m.Regs[2], m.Flags = told(x.Wide, quot), told(x.Wide, rest), api.Flags{}
	return m, true
}

// met: whether a condition holds.
func met(cond int, f api.Flags) bool {
	less := f.S != f.O
	return map[int]bool{
		api.CB: f.C, api.CAE: !f.C, api.CE: f.Z, api.CNE: !f.Z, api.CBE: f.C || f.Z, api.CA: !f.C && !f.Z,
		api.CL: less, api.CGE: !less, api.CLE: f.Z || less, api.CG: !f.Z && !less,
	}[cond]
}

// added: a with b, and the flags of it.
func added(kind int, wide bool, a, b int) (int, api.Flags) {
	left, right := plain(wide, number(a)), plain(wide, number(b))
	leftSigned, rightSigned := signed(wide, left), signed(wide, right)
	out, outSigned := new(big.Int), new(big.Int)
	switch kind {
	case api.Add:
		out.Add(left, right)
		outSigned.Add(leftSigned, rightSigned)
	case api.Sub, api.Cmp:
		out.Sub(left, right)
		outSigned.Sub(leftSigned, rightSigned)
	case api.Or:
		out.Or(left, right)
	case api.And:
		out.And(left, right)
	case api.Xor:
		out.Xor(left, right)
	}
	return told(wide, out), api.Flags{
		Z: plain(wide, out).Sign() == 0, S: signed(wide, out).Sign() < 0,
		C: plain(wide, out).Cmp(out) != 0, O: signed(wide, outSigned).Cmp(outSigned) != 0,
	}
}

// turned: v, moved or turned bit by bit.
func turned(kind int, wide bool, v, n int) int {
	size := int(bitsOf(wide))
	by := int(new(big.Int).Mod(number(n), number(size)).Int64())
	from, out := plain(wide, number(v)), new(big.Int)
	for i := range size {
		bit, to := from.Bit(i), i+by
		if kind == api.Ror || kind == api.Shr || kind == api.Sar {
			to = i - by
		}
		if kind == api.Rol || kind == api.Ror {
			to = (to + size) % size
		}
		if to >= 0 && to < size {
			out.SetBit(out, to, bit)
		}
	}
	for i := size - by; kind == api.Sar && i < size; i++ {
		out.SetBit(out, i, from.Bit(size-1))
	}
	return told(wide, out)
}

// reckoned: m after an instruction that has to do with registers and flags alone.
func reckoned(m api.Machine, x api.X) api.Machine {
	r := m.Regs
	var none api.Flags
	switch x.Op {
	case api.XMov:
		m.Regs[x.B] = kept(x.Wide, r[x.R])
	case api.XMovI:
		m.Regs[x.R] = x.N
	case api.XAlu, api.XAluI, api.XTest:
		kind, with := x.C, r[x.R]
		if x.Op == api.XAluI {
			with = x.N
		}
		if x.Op == api.XTest {
			kind = api.And
		}
		v, f := added(kind, x.Wide, r[x.B], with)
		m.Flags = f
		if x.Op != api.XTest && kind != api.Cmp {
			m.Regs[x.B] = v
		}
	case api.XMul:
		m.Regs[x.R], m.Flags = told(x.Wide, new(big.Int).Mul(number(r[x.R]), number(r[x.B]))), none
	case api.XShift:
		m.Regs[x.B], m.Flags = turned(x.C, x.Wide, r[x.B], r[1]), none
	case api.XSign:
		m.Regs[2] = 0
		if signed(x.Wide, number(r[0])).Sign() < 0 {
			m.Regs[2] = kept(x.Wide, -1)
		}
	case api.XSet:
		low := int(new(big.Int).Mod(number(r[0]), number(256)).Int64())
		m.Regs[0] -= low
		if met(x.C, m.Flags) {
			m.Regs[0]++
		}
	case api.XByte:
		m.Regs[0] = int(new(big.Int).Mod(number(r[0]), number(256)).Int64())
	case api.XCmov:
		m.Regs[x.R] = kept(x.Wide, r[x.R])
		if met(x.C, m.Flags) {
			m.Regs[x.R] = kept(x.Wide, r[x.B])
		}
	case api.XWiden:
		m.Regs[x.R] = told(true, signed(false, number(r[x.B])))
	}
	return m
}
