package rir

import (
	"oubliette/api"
	"oubliette/nest"
	"oubliette/valid"
	"oubliette/word"
)

// Bytes that a number has in a memory.
const (
	bytes32 = 4
	bytes64 = 8
)

// lowering goes through the body of a function. The module being valid, what is popped is there, and so is all that instructions name.
type lowering struct {
	m       api.Module
	body    []api.Instr
	heights []int
	spans   []nest.Span
	spanAt  []int // at the place of a span's beginning, its Else and its End, the span's number
	params  int
	locals  int // parameters too
	brings  bool
	labels  int // how many there are up to now
	out     []api.Ir
}

// begin stands ahead of the first instruction of function f.
func begin(m api.Module, f int, heights []int) *lowering {
	own := m.Funcs[f]
	sig := m.Sigs[own.Sig]
	spans, _ := nest.Spans(own.Body)
	w := &lowering{
		m:       m,
		body:    own.Body,
		heights: heights,
		spans:   spans,
		spanAt:  numbered(spans, len(own.Body)),
		params:  len(sig.Params),
		locals:  len(sig.Params) + len(own.Locals),
		brings:  len(sig.Results) > 0,
		labels:  2 * len(spans),
	}
	for cell := w.params; cell < w.locals; cell++ {
		w.add(api.Ir{Op: api.IrConst, Dst: cell})
	}
	return w
}

// numbered has, at each of so many places where a span begins, turns or ends, its number.
func numbered(spans []nest.Span, places int) []int {
	spanAt := make([]int, places)
	for i, s := range spans {
		for _, at := range [...]int{s.Begin, s.Else, s.End} {
			if at >= 0 {
				spanAt[at] = i
			}
		}
	}
	return spanAt
}

// labelOf is where branches to span i go.
func labelOf(i int) int { return 2*i + 1 }

// elseLabelOf is the else part of span i.
func elseLabelOf(i int) int { return 2*i + 2 }

// label is a place that jumps go to.
func label(n int) api.Ir { return api.Ir{Op: api.IrLabel, N: n} }

// jump goes to a label.
func jump(n int) api.Ir { return api.Ir{Op: api.IrJump, N: n} }

// add is where all instructions are made.
func (w *lowering) add(l ...api.Ir) { w.out = append(w.out, l...) }

// runs: whether a run may come to the instruction at.
func (w *lowering) runs(at int) bool { return w.heights[at] >= 0 }

// begins: whether a run may come to the beginning of span i, a block.
func (w *lowering) begins(i int) bool { return w.runs(w.spans[i].Begin) }

// isBody: whether span i is the body's own.
func (w *lowering) isBody(i int) bool { return i == len(w.spans)-1 }

// instr makes what comes of the instruction at.
func (w *lowering) instr(at int) {
	x := w.body[at]
	// Jumps may come to an Else and an End, though what stands ahead of these be dead.
	if !w.runs(at) && x.Op != api.Else && x.Op != api.End {
		return
	}
	span := w.spanAt[at]
	top := w.locals + w.heights[at]
	switch x.Op {
	case api.Nop, api.Drop, api.Classify, api.Declassify, api.Block:
	case api.Unreachable:
		w.add(api.Ir{Op: api.IrStop, N: api.TrapStop})
	case api.If:
		w.add(api.Ir{Op: api.IrUnless, A: top - 1, N: w.otherwise(span)})
	case api.Loop:
		w.add(label(labelOf(span)))
	case api.Else:
		w.turn(at)
	case api.BrIf:
		w.branchIf(w.target(at), top-1)
	case api.Br:
		w.add(w.branch(w.target(at), top)...)
	case api.End:
		if !w.isBody(span) {
			w.close(span)
			break
		}
		if !w.runs(at) {
			break
		}
		fallthrough
	case api.Return:
		w.add(w.leave(top))
	case api.Call:
		w.call(x.N, top)
	default:
		w.add(plain(x, top))
	}
}

// otherwise is the label that If, of span i, goes to if its condition does not hold.
func (w *lowering) otherwise(i int) int {
	if w.spans[i].Else >= 0 {
		return elseLabelOf(i)
	}
	return labelOf(i)
}

// turn makes what comes of the Else at.
func (w *lowering) turn(at int) {
	i := w.spanAt[at]
	if w.runs(at) {
		w.add(jump(labelOf(i)))
	}
	if w.begins(i) {
		w.add(label(elseLabelOf(i)))
	}
}

// close makes what comes of the End of span i, a block. A Loop's label stands at its beginning.
func (w *lowering) close(i int) {
	if w.begins(i) && !w.isLoop(i) {
		w.add(label(labelOf(i)))
	}
}

// isLoop: whether span i, a block, is a Loop.
func (w *lowering) isLoop(i int) bool { return w.body[w.spans[i].Begin].Op == api.Loop }

// target is the span that the branch at goes to.
func (w *lowering) target(at int) int {
	place, _, _ := nest.Target(w.body, at, w.body[at].N)
	return w.spanAt[place]
}

// branch is how a branch goes to span i, the stack reaching up to the cell ahead of top.
func (w *lowering) branch(i, top int) []api.Ir {
	if w.isBody(i) {
		return []api.Ir{w.leave(top)}
	}
	if base := w.base(i); w.takes(i) && base != top-1 {
		return []api.Ir{{Op: api.IrMove, Dst: base, A: top - 1}, jump(labelOf(i))}
	}
	return []api.Ir{jump(labelOf(i))}
}

// branchIf makes a branch to span i that hangs on the cell by, up to which the stack reaches.
func (w *lowering) branchIf(i, by int) {
	way := w.branch(i, by)
	if len(way) == 1 && way[0].Op == api.IrJump {
		w.add(api.Ir{Op: api.IrIf, A: by, N: way[0].N})
		return
	}
	w.labels++
	past := w.labels
	w.add(api.Ir{Op: api.IrUnless, A: by, N: past})
	w.add(way...)
	w.add(label(past))
}

// base is the cell that stood next to be written when span i, a block, began.
func (w *lowering) base(i int) int {
	begin := w.spans[i].Begin
	base := w.locals + w.heights[begin]
	// An If takes its condition away ahead of beginning.
	if w.body[begin].Op == api.If {
		base--
	}
	return base
}

// takes: whether a branch to span i, a block, takes a value. To a Loop it goes back to the beginning, where nothing is brought yet.
func (w *lowering) takes(i int) bool {
	return !w.isLoop(i) && w.body[w.spans[i].Begin].M != 0
}

// leave ends the function with what it brings, the stack reaching up to the cell ahead of top.
func (w *lowering) leave(top int) api.Ir {
	if w.brings {
		return api.Ir{Op: api.IrReturn, A: top - 1}
	}
	return api.Ir{Op: api.IrReturn, A: none}
}

func (w *lowering) call(n, top int) {
	sig, _, _, _ := valid.Callee(w.m, n)
	first := top - len(sig.Params)
	for i := range sig.Params {
		w.add(api.Ir{Op: api.IrArg, A: first + i, N: i})
	}
	result := none
	if len(sig.Results) > 0 {
		result = first
	}
	w.add(api.Ir{Op: api.IrCall, Dst: result, N: n})
}

// plain is what comes of an instruction of which always one comes, behind which the next one is carried out. The stack reaches up to the cell ahead of top.
func plain(x api.Instr, top int) api.Ir {
	size := bytes32
	switch x.Op {
	case api.I32Const, api.I64Const:
		return api.Ir{Op: api.IrConst, Dst: top, N: word.Trim(x.Op == api.I64Const, x.N)}
	case api.LocalGet:
		return api.Ir{Op: api.IrMove, Dst: top, A: x.N}
	case api.LocalSet, api.LocalTee:
		return api.Ir{Op: api.IrMove, Dst: x.N, A: top - 1}
	case api.GlobalGet:
		return api.Ir{Op: api.IrGet, Dst: top, N: x.N}
	case api.GlobalSet:
		return api.Ir{Op: api.IrSet, A: top - 1, N: x.N}
	case api.Select:
		return api.Ir{Op: api.IrSelect, Dst: top - 3, A: top - 3, B: top - 2, C: top - 1}
	case api.I64Load:
		size = bytes64
		fallthrough
	case api.I32Load:
		return api.Ir{Op: api.IrLoad, Dst: top - 1, A: top - 1, C: size, N: x.N, M: x.M}
	case api.I64Store:
		size = bytes64
		fallthrough
	case api.I32Store:
		return api.Ir{Op: api.IrStore, A: top - 2, B: top - 1, C: size, N: x.N, M: x.M}
	}
	return reckon(x.Op, top)
}

// reckon is what comes of an instruction that word has. One that takes a single value has it as both.
func reckon(op, top int) api.Ir {
	ops, _, _, _ := word.Arity(op)
	return api.Ir{Op: api.IrOp, Dst: top - ops, A: top - ops, B: top - 1, N: op}
}
