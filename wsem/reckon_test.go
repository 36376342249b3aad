package wsem_test

import (
	"encoding/binary"

	"oubliette/api"
	"oubliette/label"
	"oubliette/word"
)

// How a list of instructions is left, beside by a branch, which is told by how many blocks are still to be left.
const (
	through = -1 // at its End or Else
	returns = -2
	stopped = -3 // by a trap
)

// memoryOf is the memory k of a valid module, first.
func memoryOf(m api.Module, k int) []byte {
	if m.Mems[k] == 0 {
		return nil
	}
	b := make([]byte, 1<<m.Mems[k])
	for _, d := range m.Data {
		if d.Mem == k {
			copy(b[d.At:], d.Bytes)
		}
	}
	return b
}

// reckoning is a run: here blocks are lists within lists, each gone through by a call of its own, and nothing leaves but by what a call tells.
type reckoning struct {
	m     api.Module
	x     api.Script
	out   api.Outcome
	mems  [2][]byte
	depth int
}

// reckoned is the outcome of a run that fits.
func reckoned(m api.Module, x api.Script) api.Outcome {
	r := &reckoning{m: m, x: x}
	for _, g := range m.Globals {
		r.out.Globals = append(r.out.Globals, g.V)
	}
	for k := range m.Mems {
		r.mems[k] = memoryOf(m, k)
	}
	if brought, ok := r.function(x.Func, x.Args); ok && len(brought) == 1 {
		r.out.V = brought[0]
	}
	for k, b := range r.mems {
		r.out.Mems[k] = string(b)
	}
	return r.out
}

// trap ends all.
func (r *reckoning) trap(why int) int {
	r.out.Trap = why
	return stopped
}

// tick counts a step, if there may be one.
func (r *reckoning) tick() bool {
	if r.out.Steps >= r.x.Fuel {
		r.trap(api.TrapRunning)
		return false
	}
	r.out.Steps++
	return true
}

// activity is a function that is carried out.
type activity struct {
	*reckoning
	body   []api.Instr
	locals []int
	values []int
}

// function carries one out; false, if a trap came.
func (r *reckoning) function(f int, args []int) ([]int, bool) {
	if r.depth >= 40 {
		r.trap(api.TrapDepth)
		return nil, false
	}
	r.depth++
	defer func() { r.depth-- }()
	own := r.m.Funcs[f]
	a := &activity{reckoning: r, body: own.Body, locals: make([]int, len(args)+len(own.Locals))}
	copy(a.locals, args)
	_, left := a.list(0)
	if left == stopped || left != returns && !r.tick() {
		return nil, false
	}
	brings := len(r.m.Sigs[own.Sig].Results)
	return a.values[len(a.values)-brings:], true
}

// ends is where the block that begins at a place has its Else (0: none) and its End.
func (a *activity) ends(begin int) (other, end int) {
	open := 0
	for at := begin; ; at++ {
		switch a.body[at].Op {
		case api.Block, api.Loop, api.If:
			open++
		case api.Else:
			if open == 1 {
				other = at
			}
		case api.End:
			if open--; open == 0 {
				return other, at
			}
		}
	}
}

// list carries out from a place on, up to the End or the Else that no block within it has; that is told, and not carried out.
func (a *activity) list(at int) (int, int) {
	for {
		x := a.body[at]
		if x.Op == api.End || x.Op == api.Else {
			return at, through
		}
		if !a.tick() {
			return at, stopped
		}
		next, left := at+1, through
		switch x.Op {
		case api.Block, api.Loop, api.If:
			next, left = a.inner(at, x)
		case api.Br:
			left = x.N
		case api.BrIf:
			if a.pop() != 0 {
				left = x.N
			}
		case api.Return:
			left = returns
		case api.Call:
			left = a.called(x.N)
		default:
			left = a.simple(x)
		}
		if left != through {
			return at, left
		}
		at = next
	}
}

// inner carries out the block that begins at a place, with its End.
func (a *activity) inner(at int, x api.Instr) (int, int) {
	other, end := a.ends(at)
	from := at + 1
	if x.Op == api.If && a.pop() == 0 {
		if from = end; other > 0 {
			from = other + 1
		}
	}
	below := append([]int(nil), a.values...)
	place, left := a.list(from)
	for x.Op == api.Loop && left == 0 {
		a.values = append([]int(nil), below...)
		place, left = a.list(from)
	}
	switch {
	case left == 0 && x.M == 0:
		a.values = below
	case left == 0:
		a.values = append(below, a.values[len(a.values)-1])
	case left > 0:
		return 0, left - 1
	case left != through:
		return 0, left
	}
	// An If that comes to its Else carries that out, too, ahead of its End.
	if left == through && a.body[place].Op == api.Else && !a.tick() || !a.tick() {
		return 0, stopped
	}
	return end + 1, through
}

func (a *activity) pop() int {
	v := a.values[len(a.values)-1]
	a.values = a.values[:len(a.values)-1]
	return v
}

func (a *activity) push(v int) { a.values = append(a.values, v) }

func (a *activity) called(n int) int {
	own := n - len(a.m.Imports)
	sig := 0
	if own < 0 {
		sig = a.m.Imports[n]
	} else {
		sig = a.m.Funcs[own].Sig
	}
	args := make([]int, len(a.m.Sigs[sig].Params))
	for i := len(args) - 1; i >= 0; i-- {
		args[i] = a.pop()
	}
	if own < 0 {
		return a.hosted(n, a.m.Sigs[sig].Results, args)
	}
	brought, ok := a.function(own, args)
	if !ok {
		return stopped
	}
	for _, v := range brought {
		a.push(v)
	}
	return through
}

func (a *activity) hosted(n int, results, args []int) int {
	given := len(a.out.Calls)
	a.out.Calls = append(a.out.Calls, api.HostCall{Func: n, Args: args})
	if given >= 60 || given >= len(a.x.Answers) {
		return a.trap(api.TrapScript)
	}
	answer := a.x.Answers[given]
	least, greatest := 0, 0
	if len(results) == 1 {
		if greatest = 1<<32 - 1; label.Wide(results[0]) {
			least, greatest = -1<<63, 1<<63-1
		}
	}
	if answer.V < least || answer.V > greatest {
		return a.trap(api.TrapScript)
	}
	mems := [2][]byte{append([]byte(nil), a.mems[0]...), append([]byte(nil), a.mems[1]...)}
	for _, w := range answer.Writes {
		if w.Mem < 0 || w.Mem > 1 || w.At < 0 || w.At > len(mems[w.Mem]) || len(w.Bytes) > len(mems[w.Mem][w.At:]) {
			return a.trap(api.TrapScript)
		}
		copy(mems[w.Mem][w.At:], w.Bytes)
	}
	a.mems = mems
	if len(results) == 1 {
		a.push(answer.V)
	}
	return through
}

// simple carries out what stands in no one's way.
func (a *activity) simple(x api.Instr) int {
	switch x.Op {
	case api.Nop, api.Classify, api.Declassify:
	case api.Unreachable:
		return a.trap(api.TrapStop)
	case api.Drop:
		a.pop()
	case api.Select:
		n := len(a.values)
		if a.values[n-1] == 0 {
			a.values[n-3] = a.values[n-2]
		}
		a.values = a.values[:n-2]
	case api.LocalGet:
		a.push(a.locals[x.N])
	case api.LocalSet:
		a.locals[x.N] = a.pop()
	case api.LocalTee:
		a.locals[x.N] = a.values[len(a.values)-1]
	case api.GlobalGet:
		a.push(a.out.Globals[x.N])
	case api.GlobalSet:
		a.out.Globals[x.N] = a.pop()
	case api.I32Const:
		a.push(int(uint32(x.N)))
	case api.I64Const:
		a.push(x.N)
	case api.I32Load, api.I64Load, api.I32Store, api.I64Store:
		return a.access(x)
	default:
		return a.number(x.Op)
	}
	return through
}

func (a *activity) access(x api.Instr) int {
	size := 4
	if x.Op == api.I64Load || x.Op == api.I64Store {
		size = 8
	}
	stores := x.Op == api.I32Store || x.Op == api.I64Store
	v := 0
	if stores {
		v = a.pop()
	}
	at := a.pop() + x.N
	if at > len(a.mems[x.M]) || len(a.mems[x.M][at:]) < size {
		return a.trap(api.TrapMem)
	}
	there := a.mems[x.M][at : at+size]
	var b [8]byte
	if stores {
		binary.LittleEndian.PutUint64(b[:], uint64(v))
		copy(there, b[:])
		return through
	}
	copy(b[:], there)
	a.push(int(binary.LittleEndian.Uint64(b[:])))
	return through
}

func (a *activity) number(op int) int {
	many, _, _, _ := word.Arity(op)
	two := [2]int{}
	for i := many - 1; i >= 0; i-- {
		two[i] = a.pop()
	}
	v, trap := word.Eval(op, two[0], two[1])
	if trap != 0 {
		return a.trap(trap)
	}
	a.push(v)
	return through
}
