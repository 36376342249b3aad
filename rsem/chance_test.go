package rsem_test

import (
	"errors"
	"math"
	"math/rand/v2"
	"slices"
	"testing"

	"oubliette/api"
	"oubliette/label"
	"oubliette/rir"
	"oubliette/valid"
	"oubliette/word"
	"oubliette/wsem"
)

func pick[T any](r *rand.Rand, l ...T) T { return l[r.IntN(len(l))] }

// maker makes a body by chance that breaks no rule (it may be beyond a limit): what is to be there is made from what it is to be, down to what it hangs on.
type maker struct {
	*rand.Rand
	m      api.Module
	own    api.Func
	locals []int
	body   []api.Instr
	takes  [][]int // of each block that is open, the body's first, what a branch to it takes
	left   int     // how much may still be made
}

func (k *maker) add(op int, numbers ...int) {
	x := api.Instr{Op: op}
	for i, n := range numbers {
		if i == 0 {
			x.N = n
		} else {
			x.M = n
		}
	}
	k.body = append(k.body, x)
	k.left--
}

// somewhere is one of those places of types from which something flows to t; -1, if there is none.
func (k *maker) somewhere(types []int, flows func(t int) bool) int {
	var l []int
	for i, t := range types {
		if flows(t) {
			l = append(l, i)
		}
	}
	if len(l) == 0 {
		return -1
	}
	return pick(k.Rand, l...)
}

func (k *maker) globals() (l []int) {
	for _, g := range k.m.Globals {
		l = append(l, g.T)
	}
	return l
}

// constant pushes one.
func (k *maker) constant(t int) {
	if label.Wide(t) {
		k.add(api.I64Const, pick(k.Rand, 0, 1, 2, -1, k.IntN(100), int(k.Uint64()), math.MinInt, math.MaxInt))
		return
	}
	k.add(api.I32Const, pick(k.Rand, 0, 1, 2, -1, k.IntN(100), int(int32(k.Uint32())), -1<<31, 1<<31-1))
}

// value pushes one that flows to t.
func (k *maker) value(t int) {
	if k.left <= 0 {
		k.constant(t)
		return
	}
	public := label.Of(label.Wide(t), false)
	flows := func(from int) bool { return label.Flows(from, t) }
	switch k.IntN(14) {
	case 0, 1:
		if n := k.somewhere(k.locals, flows); n >= 0 {
			k.add(api.LocalGet, n)
			return
		}
		k.constant(t)
	case 2:
		if n := k.somewhere(k.globals(), flows); n >= 0 {
			k.add(api.GlobalGet, n)
			return
		}
		k.constant(t)
	case 3:
		if n := k.somewhere(k.locals, flows); n >= 0 {
			k.value(k.locals[n])
			k.add(api.LocalTee, n)
			return
		}
		k.constant(t)
	case 4:
		k.load(t)
	case 5, 6, 7:
		k.number(t)
	case 8:
		k.value(t)
		k.value(t)
		k.value(label.Of(false, label.Secret(t)))
		k.add(api.Select)
	case 9:
		k.block(pick(k.Rand, api.Block, api.Loop), one(t))
	case 10:
		k.choice(one(t))
	case 11:
		k.called(t)
	case 12:
		switch {
		case label.Secret(t):
			k.value(public)
			k.add(api.Classify)
		case k.own.Trusted:
			k.value(label.Of(label.Wide(t), true))
			k.add(api.Declassify)
		default:
			k.constant(t)
		}
	default:
		k.constant(t)
	}
}

// number pushes what one of word's instructions brings.
func (k *maker) number(t int) {
	for {
		op := pick(k.Rand, api.I32Eqz+k.IntN(22), api.I32Add+k.IntN(15), api.I64Add+k.IntN(15), api.I32Wrap, api.I64ExtendS, api.I64ExtendU)
		many, from, to, _ := word.Arity(op)
		if (to == 1) != label.Wide(t) {
			continue
		}
		if op == api.I32DivS && k.IntN(6) == 0 {
			// This comes by itself hardly ever: the quotient that does not fit.
			k.add(api.I32Const, -1<<31)
			k.add(api.I32Const, -1)
			k.add(op)
			return
		}
		divides := op >= api.I32DivS && op <= api.I32RemU || op >= api.I64DivS && op <= api.I64RemU
		for i := range many {
			of := label.Of(from == 1, label.Secret(t) && !divides)
			// A divisor is seldom nought.
			if divides && i == 1 && k.IntN(4) > 0 {
				k.add([]int{api.I32Const, api.I64Const}[from], 1+k.IntN(9))
				continue
			}
			k.value(of)
		}
		k.add(op)
		return
	}
}

// address pushes one, within the memory most times.
func (k *maker) address() {
	k.value(api.I32)
	if k.IntN(8) > 0 {
		k.add(api.I32Const, pick(k.Rand, 3, 7, 7))
		k.add(api.I32And)
	}
}

func (k *maker) offset() int { return pick(k.Rand, 0, 0, 1, k.IntN(9), 1<<32-1) }

func (k *maker) load(t int) {
	mem := 0
	if label.Secret(t) && k.IntN(2) == 0 {
		mem = 1
	}
	if k.m.Mems[mem] == 0 {
		k.constant(t)
		return
	}
	k.address()
	op := api.I32Load
	if label.Wide(t) {
		op = api.I64Load
	}
	k.add(op, k.offset(), mem)
}

func (k *maker) store() {
	mem, wide := k.IntN(2), k.IntN(2) == 0
	if k.m.Mems[mem] == 0 {
		k.add(api.Nop)
		return
	}
	k.address()
	k.value(label.Of(wide, mem == 1))
	op := api.I32Store
	if wide {
		op = api.I64Store
	}
	k.add(op, k.offset(), mem)
}

// called pushes what a call brings, if one brings something that flows to t; t below 0: one that brings nothing.
func (k *maker) called(t int) {
	var l []int
	for n := range len(k.m.Imports) + len(k.m.Funcs) {
		s, _, trusted, _ := valid.Callee(k.m, n)
		fine := t < 0 && len(s.Results) == 0 || t >= 0 && len(s.Results) == 1 && label.Flows(s.Results[0], t)
		if fine && (k.own.Trusted || !trusted) {
			l = append(l, n)
		}
	}
	switch {
	case len(l) > 0:
		n := pick(k.Rand, l...)
		s, _, _, _ := valid.Callee(k.m, n)
		for _, p := range s.Params {
			k.value(p)
		}
		k.add(api.Call, n)
	case t >= 0:
		k.constant(t)
	}
}

// inner is a block's inside: statements, and what it brings.
func (k *maker) inner(takes, brings []int) {
	k.takes = append(k.takes, takes)
	for range k.IntN(4) {
		k.statement()
	}
	for _, t := range brings {
		k.value(t)
	}
	k.takes = k.takes[:len(k.takes)-1]
}

// brought is what an instruction says that its block brings.
func brought(brings []int) int {
	for _, t := range brings {
		return t + 1
	}
	return 0
}

func (k *maker) block(op int, brings []int) {
	takes := brings
	if op == api.Loop {
		takes = nil
	}
	k.add(op, 0, brought(brings))
	k.inner(takes, brings)
	k.add(api.End)
}

func (k *maker) choice(brings []int) {
	k.value(api.I32)
	k.add(api.If, 0, brought(brings))
	k.inner(brings, brings)
	if len(brings) > 0 || k.IntN(2) == 0 {
		k.add(api.Else)
		k.inner(brings, brings)
	}
	k.add(api.End)
}

// leave branches somewhere, with something below what is taken, that goes away.
func (k *maker) leave() {
	depth := k.IntN(len(k.takes))
	takes := k.takes[len(k.takes)-1-depth]
	below := k.IntN(3)
	for range below {
		k.value(k.IntN(4))
	}
	for _, t := range takes {
		k.value(t)
	}
	switch k.IntN(5) {
	case 0:
		k.add(api.Br, depth)
	case 1:
		for _, t := range k.takes[0] {
			k.value(t)
		}
		k.add(api.Return)
	default:
		k.value(api.I32)
		k.add(api.BrIf, depth)
		for range below + len(takes) {
			k.add(api.Drop)
		}
	}
}

// statement leaves the stack as it was.
func (k *maker) statement() {
	if k.left <= 0 {
		return
	}
	switch k.IntN(16) {
	case 0, 1:
		if n := k.somewhere(k.locals, label.Right); n >= 0 {
			k.value(k.locals[n])
			k.add(api.LocalSet, n)
		}
	case 2, 3:
		if n := k.somewhere(k.globals(), label.Right); n >= 0 {
			k.value(k.m.Globals[n].T)
			k.add(api.GlobalSet, n)
		}
	case 4, 5, 6:
		k.store()
	case 7:
		k.value(k.IntN(4))
		k.add(api.Drop)
	case 8:
		k.block(pick(k.Rand, api.Block, api.Loop), nil)
	case 9, 10:
		k.choice(nil)
	case 11, 12:
		k.leave()
	case 13, 14:
		k.called(-1)
	default:
		k.add(pick(k.Rand, api.Nop, api.Nop, api.Nop, api.Unreachable))
	}
}

func someTypes(r *rand.Rand, least, most int) []int {
	l := make([]int, least+r.IntN(most-least+1))
	for i := range l {
		l[i] = r.IntN(4)
	}
	return l
}

// someModule is a valid module.
func someModule(r *rand.Rand) api.Module {
	m := api.Module{Mems: [2]int{pick(r, 0, 3, 3, 4), pick(r, 0, 3, 3, 4)}}
	for range 2 + r.IntN(4) {
		m.Sigs = append(m.Sigs, api.Sig{Params: someTypes(r, 0, 4), Results: someTypes(r, 0, 1)})
	}
	for range r.IntN(4) {
		m.Imports = append(m.Imports, r.IntN(len(m.Sigs)))
	}
	for range 1 + r.IntN(3) {
		m.Funcs = append(m.Funcs, api.Func{Sig: r.IntN(len(m.Sigs)), Trusted: r.IntN(2) == 0, Locals: someTypes(r, 0, 4), Body: body("Unreachable, End")})
	}
	for _, t := range someTypes(r, 0, 5) {
		m.Globals = append(m.Globals, api.Global{T: t, V: someValue(r, t)})
	}
	for k, size := range m.Mems {
		if size > 0 {
			m.Data = append(m.Data, api.Data{Mem: k, At: r.IntN(3), Bytes: "datum"})
		}
	}
	for f := range m.Funcs {
		m.Funcs[f].Body = someBody(r, m, f)
	}
	return m
}

// someBody is one for m's function f that may be.
func someBody(r *rand.Rand, m api.Module, f int) []api.Instr {
	m.Funcs = slices.Clone(m.Funcs)
	own := m.Funcs[f]
	s := m.Sigs[own.Sig]
	for {
		k := &maker{Rand: r, m: m, own: own, locals: slices.Concat(s.Params, own.Locals), left: 10 + r.IntN(100)}
		k.takes = [][]int{s.Results}
		for range 1 + r.IntN(6) {
			k.statement()
		}
		for _, t := range s.Results {
			k.value(t)
		}
		k.add(api.End)
		m.Funcs[f].Body = k.body
		err := valid.Valid(m)
		if err == nil {
			return k.body
		}
		if !errors.Is(err, api.ErrLimit) {
			panic("a body was made that breaks a rule")
		}
	}
}

// someValue is one of t's width.
func someValue(r *rand.Rand, t int) int {
	return word.Trim(label.Wide(t), pick(r, 0, 1, 2, 3, 7, -1, -2, r.IntN(100), int(r.Uint64()), 1<<31, 1<<32-1, math.MinInt, math.MaxInt))
}

func someArgs(r *rand.Rand, m api.Module, f int) (l []int) {
	for _, t := range m.Sigs[m.Funcs[f].Sig].Params {
		l = append(l, someValue(r, t))
	}
	return l
}

// someAnswers are such as a host may give; it does not know which one of its functions is called, so that some are wrong.
func someAnswers(r *rand.Rand, most int) (l []api.Answer) {
	for range r.IntN(most + 1) {
		a := api.Answer{V: pick(r, 0, 0, 0, 1, 2, r.IntN(100), 1<<32-1, 1<<32, -1)}
		for range r.IntN(3) {
			a.Writes = append(a.Writes, api.Write{Mem: r.IntN(2), At: pick(r, 0, 0, 3, 6, r.IntN(9)), Bytes: pick(r, "", "a", "bc", "d")})
		}
		l = append(l, a)
	}
	return l
}

// TestByChance holds modules of all kinds of instructions against the reckoning.
func TestByChance(t *testing.T) {
	r := rand.New(rand.NewPCG(15, 1))
	var ends [api.TrapFault + 1]int
	var used [api.IrStop + 1]int
	steps := 0
	for range 1500 {
		m := someModule(r)
		for f := range m.Funcs {
			c, _ := rir.Lower(m, f)
			for _, x := range c.Body {
				used[x.Op]++
			}
		}
		for range 5 {
			f := r.IntN(len(m.Funcs))
			x := api.Script{Func: f, Args: someArgs(r, m, f), Answers: someAnswers(r, 80), Fuel: pick(r, r.IntN(30), 300, 2000)}
			o := ran(t, m, x)
			if want := reckonedRun(m, x); !alike(o, want) {
				t.Fatalf("%+v\n%+v\ntold: %+v\nwant: %+v", m, x, o, want)
			}
			ends[o.Trap]++
			steps += o.Steps
		}
	}
	// Runs that are all of one sort would hold nothing.
	for trap, many := range ends[:api.TrapFault] {
		if many < 20 {
			t.Errorf("runs that end by %d: %d", trap, many)
		}
	}
	for op := api.IrConst; op <= api.IrStop; op++ {
		if used[op] < 100 {
			t.Errorf("kind %d stands only %d times in what was run", op, used[op])
		}
	}
	if ends[api.TrapFault] > 0 || steps < 100000 {
		t.Error("ends, steps:", ends, steps)
	}
}

// P15.3

// An instruction of a module comes to at most this many of its code: a call, its arguments, and the locals of what is called.
const mostOfOne = 1 + api.MaxParams + api.MaxLocals

// TestBothRunsEndAlike holds the run of the codes against the module's own, each with as much fuel as it needs once the other one has ended.
func TestBothRunsEndAlike(t *testing.T) {
	r := rand.New(rand.NewPCG(15, 3))
	var ends [api.TrapFault + 1]int
	for range 1500 {
		m := someModule(r)
		for range 5 {
			f := r.IntN(len(m.Funcs))
			x := api.Script{Func: f, Args: someArgs(r, m, f), Answers: someAnswers(r, 80), Fuel: pick(r, r.IntN(100), 3000)}
			own, e := wsem.Run(m, x)
			if e != api.OK {
				t.Fatalf("no run: %d", e)
			}
			if own.Trap != api.TrapRunning {
				ends[own.Trap]++
				more := x
				more.Fuel = mostOfOne*own.Steps + api.MaxLocals
				if o := ran(t, m, more); !endAlike(o, own) {
					t.Fatalf("%+v\n%+v\ntold: %+v\nwant: %+v", m, x, o, own)
				}
			}
			o := ran(t, m, x)
			if o.Trap == api.TrapRunning {
				continue
			}
			// Between two steps of the code there is at most a body's worth of instructions that come to nothing.
			more := x
			more.Fuel = api.MaxBody * (o.Steps + 1)
			if own, e := wsem.Run(m, more); e != api.OK || !endAlike(o, own) {
				t.Fatalf("%+v\n%+v\ntold: %+v\nthe module's own: %+v", m, x, o, own)
			}
		}
	}
	for trap, many := range ends[:api.TrapFault] {
		if many < 20 && trap != api.TrapRunning {
			t.Errorf("runs that end by %d: %d", trap, many)
		}
	}
}

// TestMoreFuel holds that a run that has ended ends alike with more fuel, and that one with less is its beginning.
func TestMoreFuel(t *testing.T) {
	r := rand.New(rand.NewPCG(15, 4))
	ended := 0
	for range 300 {
		m := someModule(r)
		f := r.IntN(len(m.Funcs))
		x := api.Script{Func: f, Args: someArgs(r, m, f), Answers: someAnswers(r, 10), Fuel: 200}
		o := ran(t, m, x)
		for range 12 {
			fuel := r.IntN(min(o.Steps+10, 200))
			x.Fuel = fuel
			less := ran(t, m, x)
			switch {
			case fuel >= o.Steps && !alike(less, o):
				t.Fatalf("of fuel %d: %+v; of 200: %+v", fuel, less, o)
			case fuel < o.Steps && (less.Trap != api.TrapRunning || less.Steps != fuel || less.V != 0 || len(less.Calls) > len(o.Calls)):
				t.Fatalf("of fuel %d: %+v; of 200: %+v", fuel, less, o)
			}
		}
		if o.Trap == api.TrapRunning {
			continue
		}
		ended++
		for _, fuel := range []int{201, 1 << 40, math.MaxInt} {
			x.Fuel = fuel
			if more := ran(t, m, x); !alike(more, o) {
				t.Fatalf("of fuel %d: %+v; of 200: %+v", fuel, more, o)
			}
		}
	}
	if ended < 100 {
		t.Error("runs that ended:", ended)
	}
}
