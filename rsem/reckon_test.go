package rsem_test

import (
	"encoding/binary"

	"oubliette/api"
	"oubliette/label"
	"oubliette/rir"
	"oubliette/word"
)

// memoryOf is the memory k of a valid module, first.
func memoryOf(m api.Module, k int) []byte {
	if m.Mems[k] == 0 {
		return nil
	}
	b := make([]byte, 1<<m.Mems[k])
	for _, d := range m.Data {
		if d.Mem == k {
			copy(b[d.At:], d.Bytes)
		}
	}
	return b
}

// placesOf are the places where a label stands.
func placesOf(body []api.Ir, label int) (l []int) {
	for at, x := range body {
		if x.Op == api.IrLabel && x.N == label {
			l = append(l, at)
		}
	}
	return l
}

// activation is a function that is carried out.
type activation struct {
	code  api.Code
	cells []int
	at    int
}

// overCells carries out what needs nothing but cells; false, if the function ends by it, or a trap comes.
func (a *activation) overCells(x api.Ir) (trap int, goes bool) {
	switch x.Op {
	case api.IrConst:
		a.cells[x.Dst] = x.N
	case api.IrMove:
		a.cells[x.Dst] = a.cells[x.A]
	case api.IrOp:
		v, trap := word.Eval(x.N, a.cells[x.A], a.cells[x.B])
		if trap != 0 {
			return trap, false
		}
		a.cells[x.Dst] = v
	case api.IrSelect:
		v := a.cells[x.A]
		if a.cells[x.C] == 0 {
			v = a.cells[x.B]
		}
		a.cells[x.Dst] = v
	case api.IrJump:
		a.at = placesOf(a.code.Body, x.N)[0]
	case api.IrIf:
		if a.cells[x.A] != 0 {
			a.at = placesOf(a.code.Body, x.N)[0]
		}
	case api.IrUnless:
		if a.cells[x.A] == 0 {
			a.at = placesOf(a.code.Body, x.N)[0]
		}
	case api.IrStop:
		return x.N, false
	case api.IrReturn:
		return 0, false
	}
	return 0, true
}

// brings is what an IrReturn of the cell n brings.
func (a *activation) brings(n int) int {
	if n == -1 {
		return 0
	}
	return a.cells[n]
}

// reckonedExec is what a code that may be carried out alone comes to.
func reckonedExec(c api.Code, cells []int) (out []int, v, trap int) {
	a := &activation{code: c, cells: append([]int(nil), cells...)}
	for steps := 0; a.at < len(c.Body); steps++ {
		if steps == 10000 {
			return a.cells, 0, api.TrapRunning
		}
		x := c.Body[a.at]
		a.at++
		trap, goes := a.overCells(x)
		switch {
		case goes:
		case x.Op == api.IrReturn:
			return a.cells, a.brings(x.A), 0
		default:
			return a.cells, 0, trap
		}
	}
	return a.cells, 0, 0
}

// mayExec: whether a code may be carried out alone over so many cells: here which fields of an instruction are cells is told by letters.
func mayExec(c api.Code, cells int) bool {
	for _, x := range c.Body {
		fields, known := map[int]string{
			api.IrConst: "D", api.IrMove: "DA", api.IrOp: "DAB", api.IrSelect: "DABC",
			api.IrLabel: "", api.IrJump: "L", api.IrIf: "AL", api.IrUnless: "AL", api.IrReturn: "R", api.IrStop: "",
		}[x.Op]
		if !known {
			return false
		}
		for _, field := range fields {
			cell := map[rune]int{'D': x.Dst, 'A': x.A, 'B': x.B, 'C': x.C, 'R': x.A}[field]
			switch {
			case field == 'L':
				if len(placesOf(c.Body, x.N)) != 1 {
					return false
				}
			case field == 'R' && cell == -1:
			case cell < 0 || cell >= cells:
				return false
			}
		}
		if _, _, _, ok := word.Arity(x.N); x.Op == api.IrOp && !ok {
			return false
		}
	}
	return c.Cells == cells
}

// reckoning is a run: here the calls that are within one another are a list, and nothing leaves but by what a call tells.
type reckoning struct {
	m      api.Module
	codes  []api.Code
	x      api.Script
	out    api.Outcome
	mems   [2][]byte
	args   [4]int
	within []*activation
}

// reckonedRun is the outcome of a run that fits.
func reckonedRun(m api.Module, x api.Script) api.Outcome {
	r := &reckoning{m: m, x: x}
	for _, g := range m.Globals {
		r.out.Globals = append(r.out.Globals, g.V)
	}
	for k := range m.Mems {
		r.mems[k] = memoryOf(m, k)
	}
	for f := range m.Funcs {
		c, e := rir.Lower(m, f)
		if e != api.OK {
			panic("no code")
		}
		r.codes = append(r.codes, c)
	}
	r.enter(x.Func, x.Args)
	for len(r.within) > 0 && r.out.Trap == 0 {
		if r.out.Steps == x.Fuel {
			r.out.Trap = api.TrapRunning
			break
		}
		r.out.Steps++
		r.out.Trap = r.step()
	}
	if r.out.Trap != 0 {
		r.out.V = 0
	}
	for k, b := range r.mems {
		r.out.Mems[k] = string(b)
	}
	return r.out
}

func (r *reckoning) enter(f int, args []int) {
	c := r.codes[f]
	a := &activation{code: c, cells: make([]int, c.Cells)}
	copy(a.cells[:c.Params], args)
	r.within = append(r.within, a)
}

// step carries out the next instruction of the call that was entered last, and tells its trap.
func (r *reckoning) step() int {
	a := r.within[len(r.within)-1]
	x := a.code.Body[a.at]
	a.at++
	switch x.Op {
	case api.IrArg:
		r.args[x.N] = a.cells[x.A]
	case api.IrGet:
		a.cells[x.Dst] = r.out.Globals[x.N]
	case api.IrSet:
		r.out.Globals[x.N] = a.cells[x.A]
	case api.IrLoad, api.IrStore:
		return r.access(a, x)
	case api.IrCall:
		return r.called(a, x)
	case api.IrReturn:
		r.within = r.within[:len(r.within)-1]
		r.bring(a.brings(x.A))
	default:
		trap, _ := a.overCells(x)
		return trap
	}
	return 0
}

// bring hands what a call brings to the one that waits for it, behind its IrCall.
func (r *reckoning) bring(v int) {
	if len(r.within) == 0 {
		r.out.V = v
		return
	}
	a := r.within[len(r.within)-1]
	if x := a.code.Body[a.at-1]; x.Dst >= 0 {
		a.cells[x.Dst] = v
	}
}

func (r *reckoning) access(a *activation, x api.Ir) int {
	at := a.cells[x.A] + x.N
	if at > len(r.mems[x.M]) || len(r.mems[x.M][at:]) < x.C {
		return api.TrapMem
	}
	there := r.mems[x.M][at : at+x.C]
	var b [8]byte
	if x.Op == api.IrStore {
		binary.LittleEndian.PutUint64(b[:], uint64(a.cells[x.B]))
		copy(there, b[:])
		return 0
	}
	copy(b[:], there)
	a.cells[x.Dst] = int(binary.LittleEndian.Uint64(b[:]))
	return 0
}

func (r *reckoning) called(a *activation, x api.Ir) int {
	own := x.N - len(r.m.Imports)
	if own < 0 {
		return r.hosted(x.N)
	}
	if len(r.within) == 40 {
		return api.TrapDepth
	}
	r.enter(own, r.args[:])
	return 0
}

func (r *reckoning) hosted(n int) int {
	sig := r.m.Sigs[r.m.Imports[n]]
	given := len(r.out.Calls)
	r.out.Calls = append(r.out.Calls, api.HostCall{Func: n, Args: append([]int(nil), r.args[:len(sig.Params)]...)})
	if given >= 60 || given >= len(r.x.Answers) {
		return api.TrapScript
	}
	answer := r.x.Answers[given]
	least, greatest := 0, 0
	if len(sig.Results) == 1 {
		if greatest = 1<<32 - 1; label.Wide(sig.Results[0]) {
			least, greatest = -1<<63, 1<<63-1
		}
	}
	if answer.V < least || answer.V > greatest {
		return api.TrapScript
	}
	mems := [2][]byte{append([]byte(nil), r.mems[0]...), append([]byte(nil), r.mems[1]...)}
	for _, w := range answer.Writes {
		if w.Mem < 0 || w.Mem > 1 || w.At < 0 || w.At > len(mems[w.Mem]) || len(w.Bytes) > len(mems[w.Mem][w.At:]) {
			return api.TrapScript
		}
		copy(mems[w.Mem][w.At:], w.Bytes)
	}
	r.mems = mems
	r.bring(answer.V)
	return 0
}
