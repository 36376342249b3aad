package rsem

import (
	"oubliette/api"
	"oubliette/host"
	"oubliette/linmem"
	"oubliette/rir"
	"oubliette/valid"
)

// ending is the trap by which a run leaves all its calls at once.
type ending int

// must leaves the run by that trap, if something does not hold, however many calls are within one another.
func must(holds bool, trap int) {
	if !holds {
		panic(ending(trap))
	}
}

// ended is what a call brings that is carried out whole, or the trap that it left by.
func ended(whole func() int) (v, trap int) {
	defer func() {
		if p := recover(); p != nil {
			v, trap = 0, trapOf(p)
		}
	}()
	return whole(), api.NoTrap
}

// trapOf is the trap that a panic left with.
func trapOf(p any) int {
	// Only endings are let go of here. Should anything else come, the run still ends: no call may panic.
	if trap, ok := p.(ending); ok {
		return int(trap)
	}
	return api.TrapFault
}

// function is a function's code.
type function struct {
	api.Code
	targets []int // at the place of a jump, that of its label
}

// run is a run of a valid module's functions: what all its calls share.
type run struct {
	m         api.Module
	functions []function
	host      *host.Host
	fuel      int
	steps     int
	depth     int // how many calls are within one another
	args      [api.MaxParams]int
	globals   []int
	mems      [2]string
}

// newRun stands ahead of its first call.
func newRun(m api.Module, x api.Script) *run {
	r := &run{m: m, host: host.New(x), fuel: x.Fuel}
	for f := range m.Funcs {
		// Of a valid module there is code of each function, and each of its jumps has its label.
		c, _ := rir.Lower(m, f)
		targets, _ := targetsOf(c.Body)
		r.functions = append(r.functions, function{Code: c, targets: targets})
	}
	for _, g := range m.Globals {
		r.globals = append(r.globals, g.V)
	}
	for k := range r.mems {
		r.mems[k] = linmem.New(m, k)
	}
	return r
}

// enter calls function f, and tells what it brings: 0, if nothing.
func (r *run) enter(f int, args []int) int {
	must(r.depth < api.MaxDepth, api.TrapDepth)
	r.depth++
	k := &call{run: r, function: r.functions[f], cells: make([]int, r.functions[f].Cells)}
	copy(k.cells, args)
	v := k.whole()
	r.depth--
	return v
}

// callOut does what IrCall of n does, of the host or of a function, and tells what that brings: 0, if nothing.
func (r *run) callOut(n int) int {
	sig, ofHost, _, _ := valid.Callee(r.m, n)
	args := r.args[:len(sig.Params)]
	if !ofHost {
		return r.enter(n-len(r.m.Imports), args)
	}
	v, mems, ok := r.host.Ask(n, sig.Results, args, r.mems)
	must(ok, api.TrapScript)
	r.mems = mems
	return v
}
