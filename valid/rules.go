package valid

import (
	"oubliette/api"
	"oubliette/label"
	"oubliette/word"
)

// bits64 is a width as word tells it.
const bits64 = 1

// secretMem is the memory that is secret.
const secretMem = 1

// instr asks the rule of an instruction, and leaves the stack and the frames as they are behind it. What it has behind its first byte is right: Fits has asked.
func (w *walk) instr(x api.Instr) {
	switch x.Op {
	case api.Nop:
	case api.Unreachable:
		w.die()
	case api.If:
		w.popTo(api.I32)
		fallthrough
	case api.Block, api.Loop:
		w.open(x)
	case api.Else:
		w.turn()
	case api.End:
		w.close()
	case api.Br, api.BrIf, api.Return:
		w.branch(x)
	case api.Call:
		w.call(x.N)
	case api.Drop:
		w.pop()
	case api.Select:
		w.choose()
	case api.LocalGet, api.LocalSet, api.LocalTee, api.GlobalGet, api.GlobalSet:
		w.cell(x)
	case api.I32Load, api.I64Load, api.I32Store, api.I64Store:
		w.access(x)
	case api.I32Const:
		w.push(api.I32)
	case api.I64Const:
		w.push(api.I64)
	case api.Classify:
		w.push(relabel(w.pop(), true))
	case api.Declassify:
		w.must(w.trusted)
		w.push(relabel(w.pop(), false))
	default:
		w.reckon(x.Op)
	}
}

func (w *walk) branch(x api.Instr) {
	switch x.Op {
	case api.BrIf:
		w.popTo(api.I32)
		takes := w.target(x.N).takes()
		w.popTo(takes...)
		w.push(takes...)
		return
	case api.Br:
		w.popTo(w.target(x.N).takes()...)
	case api.Return:
		w.popTo(w.frames[0].brings...)
	}
	w.die()
}

func (w *walk) call(n int) {
	s, _, trusted, ok := Callee(w.m, n)
	w.must(ok)
	w.must(w.trusted || !trusted)
	w.popTo(s.Params...)
	w.push(s.Results...)
}

func (w *walk) choose() {
	by := w.pop()
	w.must(!label.Wide(by))
	upper := w.pop()
	t := w.join(w.pop(), upper)
	// Which one was chosen would tell what it was chosen by.
	if label.Secret(by) {
		t = relabel(t, true)
	}
	w.push(t)
}

func (w *walk) join(lower, upper int) int {
	if upper == anyType {
		return lower
	}
	if lower == anyType {
		return upper
	}
	t, ok := label.Join(lower, upper)
	w.must(ok)
	return t
}

func (w *walk) cell(x api.Instr) {
	switch x.Op {
	case api.LocalSet:
		w.popTo(w.local(x.N))
	case api.LocalTee:
		w.popTo(w.local(x.N))
		fallthrough
	case api.LocalGet:
		w.push(w.local(x.N))
	case api.GlobalSet:
		w.popTo(w.global(x.N))
	case api.GlobalGet:
		w.push(w.global(x.N))
	}
}

// local is the type of local n.
func (w *walk) local(n int) int {
	w.must(n < len(w.locals))
	return w.locals[n]
}

// global is the type of global n.
func (w *walk) global(n int) int {
	w.must(n < len(w.m.Globals))
	return w.m.Globals[n].T
}

func (w *walk) access(x api.Instr) {
	w.must(w.m.Mems[x.M] != 0)
	wide := x.Op == api.I64Load || x.Op == api.I64Store
	cell := label.Of(wide, x.M == secretMem)
	if x.Op == api.I32Load || x.Op == api.I64Load {
		w.popTo(api.I32)
		w.push(cell)
		return
	}
	w.popTo(api.I32, cell)
}

// reckon is asked of what word has.
func (w *walk) reckon(op int) {
	ops, from, to, _ := word.Arity(op)
	// How long a division takes, and whether it ends the run, tells of its values.
	takes := label.Of(from == bits64, !divides(op))
	secret := false
	for range ops {
		if w.popTo(takes) {
			secret = true
		}
	}
	w.push(label.Of(to == bits64, secret))
}

// divides: whether op is a division or rest.
func divides(op int) bool {
	return op >= api.I32DivS && op <= api.I32RemU || op >= api.I64DivS && op <= api.I64RemU
}

// relabel is the type of t's width that is secret or not.
func relabel(t int, secret bool) int {
	if t == anyType {
		return anyType
	}
	return label.Of(label.Wide(t), secret)
}
