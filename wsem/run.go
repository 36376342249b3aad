package wsem

import (
	"oubliette/api"
	"oubliette/host"
	"oubliette/linmem"
	"oubliette/nest"
)

// ending is the trap by which a run leaves all its calls at once.
type ending int

// must leaves the run by that trap, if something does not hold, however many calls are within one another.
func must(holds bool, trap int) {
	if !holds {
		panic(ending(trap))
	}
}

// run is a run of a valid module: what all its calls share.
type run struct {
	m       api.Module
	spans   [][]nest.Span // of each function, at the place of a block's beginning, that block
	host    *host.Host
	fuel    int
	steps   int
	depth   int // how many calls are within one another
	globals []int
	mems    [2]string
}

// newRun stands ahead of its first call.
func newRun(m api.Module, x api.Script) *run {
	r := &run{m: m, host: host.New(x), fuel: x.Fuel}
	for _, f := range m.Funcs {
		r.spans = append(r.spans, spansOf(f.Body))
	}
	for _, g := range m.Globals {
		r.globals = append(r.globals, g.V)
	}
	for k := range r.mems {
		r.mems[k] = linmem.New(m, k)
	}
	return r
}

// spansOf has, at the place of each block's beginning, that block: a run comes to the same ones again and again.
func spansOf(body []api.Instr) []nest.Span {
	at := make([]nest.Span, len(body))
	spans, _ := nest.Spans(body)
	for _, s := range spans {
		if s.Begin >= 0 {
			at[s.Begin] = s
		}
	}
	return at
}

// whole is the run's first call, with all that comes of it: what that brings (0, if nothing), or the trap by which it ends.
func (r *run) whole(f int, args []int) (v, trap int) {
	defer func() {
		if p := recover(); p != nil {
			v, trap = 0, trapOf(p)
		}
	}()
	for _, brought := range r.enter(f, args) {
		v = brought
	}
	return v, api.NoTrap
}

// trapOf is the trap that a panic left with.
func trapOf(p any) int {
	// Only endings are let go of here. Should anything else come, the run still ends: no call may panic.
	if trap, ok := p.(ending); ok {
		return int(trap)
	}
	return api.TrapFault
}

// enter calls function f, and tells what it brings.
func (r *run) enter(f int, args []int) []int {
	must(r.depth < api.MaxDepth, api.TrapDepth)
	r.depth++
	c := newCall(r, f, args)
	for !c.ended {
		c.step()
	}
	r.depth--
	return c.take(c.results)
}

// ask calls the host function n, and tells what it brings.
func (r *run) ask(n int, sig api.Sig, args []int) []int {
	v, mems, ok := r.host.Ask(n, sig.Results, args, r.mems)
	must(ok, api.TrapScript)
	r.mems = mems
	if len(sig.Results) == 0 {
		return nil
	}
	return []int{v}
}
