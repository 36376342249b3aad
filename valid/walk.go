package valid

import (
	"slices"

	"oubliette/api"
	"oubliette/label"
)

// anyType is what a dead frame has below its beginning: it is none of the types, and may stand for each.
const anyType = -1

// nowhere is the height where no run ever comes.
const nowhere = -1

// frame is a block that is not ended, or the body itself.
type frame struct {
	op     int   // what it goes on from: Block (the body, too), Loop, If, Else
	brings []int // none, or a type
	base   int   // how high the stack was when it began
	dead   bool
}

// takes is what a branch to a frame needs: to a Loop it goes back to the beginning, where nothing is brought yet.
func (f frame) takes() []int {
	if f.op == api.Loop {
		return nil
	}
	return f.brings
}

// walk goes through a function's body.
type walk struct {
	m       api.Module
	trusted bool
	at      int // where a rule that is broken now is told to be broken
	locals  []int
	stack   []int
	frames  []frame
}

// begin stands ahead of the first instruction of function f.
func begin(m api.Module, f int) *walk {
	own := m.Funcs[f]
	sig := m.Sigs[own.Sig]
	return &walk{
		m:       m,
		trusted: own.Trusted,
		locals:  slices.Concat(sig.Params, own.Locals),
		frames:  []frame{{op: api.Block, brings: sig.Results}},
	}
}

// height is how many values are on the stack, if a run may come here: not if a frame around is dead.
func (w *walk) height() int {
	if slices.ContainsFunc(w.frames, func(f frame) bool { return f.dead }) {
		return nowhere
	}
	return len(w.stack)
}

// must leaves by a panic, if a rule of the instruction that is asked now is broken.
func (w *walk) must(holds bool) { must(holds, w.at) }

// last is the frame that was begun last and is not ended. There is one up to the body's last End, and nothing stands behind that.
func (w *walk) last() *frame { return &w.frames[len(w.frames)-1] }

// target is the frame that a branch of that depth goes to.
func (w *walk) target(depth int) frame {
	w.must(depth < len(w.frames))
	return w.frames[len(w.frames)-1-depth]
}

func (w *walk) push(types ...int) {
	w.stack = append(w.stack, types...)
	if len(w.stack) > api.MaxStack {
		panic(fault(api.ErrLimit, w.at))
	}
}

// pop takes whatever type is uppermost. A frame has none of what stood there ahead of it; if it is dead nothing ever stands there, so that it may be anything.
func (w *walk) pop() int {
	f := w.last()
	if len(w.stack) <= f.base {
		w.must(f.dead)
		return anyType
	}
	t := w.stack[len(w.stack)-1]
	w.stack = w.stack[:len(w.stack)-1]
	return t
}

// popTo takes what flows to each of the types, the last one first, and tells whether one of what was taken is secret.
func (w *walk) popTo(types ...int) (secret bool) {
	for _, to := range slices.Backward(types) {
		t := w.pop()
		w.must(t == anyType || label.Flows(t, to))
		secret = secret || label.Secret(t)
	}
	return secret
}

// die leaves the frame's rest dead.
func (w *walk) die() {
	f := w.last()
	f.dead = true
	w.stack = w.stack[:f.base]
}

// open begins a frame.
func (w *walk) open(x api.Instr) {
	f := frame{op: x.Op, base: len(w.stack)}
	if x.M != 0 {
		f.brings = []int{x.M - 1}
	}
	w.frames = append(w.frames, f)
}

// fill asks whether the last frame has what it brings, and nothing beside it.
func (w *walk) fill() {
	w.popTo(w.last().brings...)
	w.must(len(w.stack) == w.last().base)
}

// turn goes on behind an Else as if the If began there.
func (w *walk) turn() {
	w.fill()
	w.last().op = api.Else
	w.last().dead = false
}

// close ends the last frame.
func (w *walk) close() {
	w.fill()
	f := *w.last()
	// Where the condition does not hold such an If is empty.
	w.must(f.op != api.If || len(f.brings) == 0)
	w.frames = w.frames[:len(w.frames)-1]
	w.push(f.brings...)
}
