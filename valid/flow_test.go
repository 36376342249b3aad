package valid_test

import (
	"encoding/binary"
	"math/rand/v2"
	"slices"
	"testing"

	"oubliette/api"
	"oubliette/label"
	"oubliette/nest"
	"oubliette/valid"
	"oubliette/word"
)

// P7.4

// runner carries a body out that calls nothing, and writes down all that must not hang on a secret: where it is, at what addresses, what it divides, what public cells become.
type runner struct {
	m                      api.Module
	own                    api.Func
	at                     int
	types, locals, globals []int
	mems                   [2][]byte
	stack                  []int
	open                   []opened
	seen                   []int
}

// opened is a block that a run is in.
type opened struct {
	span nest.Span
	base int
}

func (r *runner) pop() int {
	v := r.stack[len(r.stack)-1]
	r.stack = r.stack[:len(r.stack)-1]
	return v
}

func (r *runner) push(wide bool, v int) { r.stack = append(r.stack, word.Trim(wide, v)) }

// see writes v down, if it is of a public type.
func (r *runner) see(t, v int) {
	if !label.Secret(t) {
		r.seen = append(r.seen, v)
	}
}

// run goes on until the body or the fuel is at its end, or something may not be.
func (r *runner) run(fuel int) {
	spans, _ := nest.Spans(r.own.Body)
	r.open = []opened{{spans[len(spans)-1], 0}}
	going := true
	for range fuel {
		r.seen = append(r.seen, r.at)
		x := r.own.Body[r.at]
		r.at++
		switch x.Op {
		case api.Block, api.Loop, api.If:
			r.begin(x.Op, spans)
		case api.Else:
			r.at = r.open[len(r.open)-1].span.End
		case api.End:
			r.open = r.open[:len(r.open)-1]
		case api.BrIf:
			if r.pop() != 0 {
				r.leave(x.N)
			}
		case api.Br:
			r.leave(x.N)
		case api.Return:
			r.leave(len(r.open) - 1)
		default:
			going = r.plain(x)
		}
		if !going {
			return
		}
		if len(r.open) == 0 {
			for _, t := range r.m.Sigs[r.own.Sig].Results {
				r.see(t, r.pop())
			}
			return
		}
	}
}

func (r *runner) begin(op int, spans []nest.Span) {
	begun := r.at - 1
	holds := op != api.If || r.pop() != 0
	s := spans[slices.IndexFunc(spans, func(s nest.Span) bool { return s.Begin == begun })]
	r.open = append(r.open, opened{s, len(r.stack)})
	if !holds && s.Else >= 0 {
		r.at = s.Else + 1
	} else if !holds {
		r.at = s.End
	}
}

// leave branches out of so many blocks, and out of, or back in, the next one.
func (r *runner) leave(depth int) {
	r.open = r.open[:len(r.open)-depth]
	o := r.open[len(r.open)-1]
	brings := len(r.m.Sigs[r.own.Sig].Results)
	if o.span.Begin >= 0 {
		x := r.own.Body[o.span.Begin]
		if x.Op == api.Loop {
			r.stack, r.at = r.stack[:o.base], o.span.Begin+1
			return
		}
		brings = min(x.M, 1)
	}
	r.stack = append(r.stack[:o.base], r.stack[len(r.stack)-brings:]...)
	r.at, r.open = o.span.End+1, r.open[:len(r.open)-1]
}

// plain carries out what is no branch, and tells whether the run goes on.
func (r *runner) plain(x api.Instr) bool {
	switch x.Op {
	case api.Unreachable:
		return false
	case api.Nop, api.Classify, api.Declassify:
	case api.Drop:
		r.pop()
	case api.Select:
		by, b, a := r.pop(), r.pop(), r.pop()
		if by == 0 {
			a = b
		}
		r.push(true, a)
	case api.LocalGet:
		r.push(true, r.locals[x.N])
	case api.LocalSet, api.LocalTee:
		r.locals[x.N] = r.pop()
		r.see(r.types[x.N], r.locals[x.N])
		if x.Op == api.LocalTee {
			r.push(true, r.locals[x.N])
		}
	case api.GlobalGet:
		r.push(true, r.globals[x.N])
	case api.GlobalSet:
		r.globals[x.N] = r.pop()
		r.see(r.m.Globals[x.N].T, r.globals[x.N])
	case api.I32Load, api.I64Load, api.I32Store, api.I64Store:
		return r.access(x)
	case api.I32Const, api.I64Const:
		r.push(x.Op == api.I64Const, x.N)
	default:
		return r.reckon(x.Op)
	}
	return true
}

func (r *runner) access(x api.Instr) bool {
	v := 0
	if x.Op == api.I32Store || x.Op == api.I64Store {
		v = r.pop()
	}
	at, size := r.pop()+x.N, 4
	if x.Op == api.I64Load || x.Op == api.I64Store {
		size = 8
	}
	r.seen = append(r.seen, at)
	if at+size > len(r.mems[x.M]) {
		return false
	}
	b := make([]byte, 8)
	copy(b, r.mems[x.M][at:at+size])
	if x.Op == api.I32Load || x.Op == api.I64Load {
		r.push(true, int(binary.LittleEndian.Uint64(b)))
		return true
	}
	r.see(label.Of(size == 8, x.M == 1), v)
	binary.LittleEndian.PutUint64(b, uint64(v))
	copy(r.mems[x.M][at:at+size], b)
	return true
}

func (r *runner) reckon(op int) bool {
	ops, _, _, _ := word.Arity(op)
	b := 0
	if ops == 2 {
		b = r.pop()
	}
	a := r.pop()
	v, trap := word.Eval(op, a, b)
	if op >= api.I32DivS && op <= api.I32RemU || op >= api.I64DivS && op <= api.I64RemU {
		r.seen = append(r.seen, a, b)
	}
	r.push(true, v)
	return trap == api.NoTrap
}

// seenOf is what a run of function 0 of m lets be seen, if its secrets are those that hide tells, one behind the other.
func seenOf(m api.Module, hide func() int) []int {
	own := m.Funcs[0]
	r := runner{m: m, own: own, types: slices.Concat(m.Sigs[own.Sig].Params, own.Locals)}
	first := func(t, v int) int {
		if label.Secret(t) {
			v = hide()
		}
		return word.Trim(label.Wide(t), v)
	}
	for i, t := range r.types {
		v := 0
		if i < len(m.Sigs[own.Sig].Params) {
			v = first(t, i+1)
		}
		r.locals = append(r.locals, v)
	}
	for _, g := range m.Globals {
		r.globals = append(r.globals, first(g.T, g.V))
	}
	r.mems = [2][]byte{make([]byte, 1<<m.Mems[0]), make([]byte, 1<<m.Mems[1])}
	for i := range r.mems[1] {
		r.mems[1][i] = byte(hide())
	}
	r.run(200)
	return slices.Concat(r.seen, public(r.types, r.locals), r.globals[:1], r.globals[2:3], asInts(r.mems[0]))
}

// public are those of the values whose type is public.
func public(types, values []int) (l []int) {
	for i, t := range types {
		if !label.Secret(t) {
			l = append(l, values[i])
		}
	}
	return l
}

func asInts(b []byte) (l []int) {
	for _, v := range b {
		l = append(l, int(v))
	}
	return l
}

// flowWorld is a module with one function that is not trusted, and cells of all types.
func flowWorld(results []int) api.Module {
	return api.Module{
		Sigs:    []api.Sig{{Params: []int{api.I32, api.S32, api.S64}, Results: results}},
		Funcs:   []api.Func{{Locals: []int{api.I64, api.S64, api.I32}}},
		Mems:    [2]int{4, 4},
		Globals: []api.Global{{T: api.I32, V: 5}, {T: api.S32}, {T: api.I64, V: -7}, {T: api.S64}},
	}
}

// flowInstrs are instructions for its body.
func flowInstrs(r *rand.Rand) []api.Instr {
	l := body("Select, Select, Select, Drop, I32Const 0, I32Const 1, I32Const 3, I64Const 3, Classify, Declassify, Else, Else, Else, End, End, End, Return, Br 0, Br 1, BrIf 0, BrIf 0, BrIf 1, BrIf 2, I32DivU, I32RemS, I64DivS, I32Eqz, I64Eqz, I32Wrap, I64ExtendU")
	for n := range 6 {
		for _, op := range []int{api.LocalGet, api.LocalGet, api.LocalSet, api.LocalSet, api.LocalTee} {
			l = append(l, api.Instr{Op: op, N: n})
		}
	}
	for n := range 4 {
		l = append(l, api.Instr{Op: api.GlobalGet, N: n}, api.Instr{Op: api.GlobalSet, N: n})
		l = append(l, api.Instr{Op: []int{api.I32Load, api.I64Load, api.I32Store, api.I64Store}[n], M: 0}, api.Instr{Op: []int{api.I32Load, api.I64Load, api.I32Store, api.I64Store}[n], M: 1})
		l = append(l, api.Instr{Op: pick(r, api.Block, api.Loop, api.If, api.If), M: r.IntN(5)})
		l = append(l, api.Instr{Op: api.I32Eqz + r.IntN(api.I64GeU-api.I32Eqz+1)}, api.Instr{Op: api.I32Add + r.IntN(api.I32Rotr-api.I32Add+1)}, api.Instr{Op: api.I64Add + r.IntN(api.I64Rotr-api.I64Add+1)})
	}
	return l
}

// holdUnseen carries m's function out of secrets that are unlike, and holds that all that is seen is the same.
func holdUnseen(t *testing.T, m api.Module, secrets ...func() int) (steps int) {
	t.Helper()
	first := seenOf(m, func() int { return 0 })
	for _, of := range secrets {
		if again := seenOf(m, of); !slices.Equal(first, again) {
			t.Fatalf("%v\nshows, of one secret, %v\nof another %v", m.Funcs[0].Body, first, again)
		}
	}
	return len(first)
}

// TestShortFlows goes through all ways of bringing three values to one instruction, and what comes of it to where something could be seen of it, as far as Valid lets them be.
func TestShortFlows(t *testing.T) {
	sources := body("I32Const 0, LocalGet 0, LocalGet 1, LocalGet 2, LocalGet 3, GlobalGet 1")
	middles := body("Nop, Select, I32Add, I64Add, I32DivU, I64DivS, I32Wrap, I64ExtendU, I32Eqz, Classify, Declassify, I32Load 0 0, I32Load 1 0, I64Load 1 0, LocalTee 0, LocalTee 3, GlobalSet 0, I32Store 0 0, I64Store 0 0, I32Store 1 0")
	sinks := [][]api.Instr{body("LocalSet 0"), body("LocalSet 3"), body("GlobalSet 0"), body("GlobalSet 2"), body("If, Nop, End"), body("BrIf 0"), body("I32Load 0 0"), body("I64Load 1 0"), body("I32DivU"), body("I64DivS"), body("I32Store 0 0"), body("Block I32, I32Const 1, BrIf 0, End, LocalSet 0"), body("Br 0"), body("Return")}
	carried := 0
	for _, results := range [][]int{nil, {api.I32}} {
		m := flowWorld(results)
		for n := range 6 * 6 * 6 {
			for _, middle := range middles {
				for _, sink := range sinks {
					m.Funcs[0].Body = slices.Concat([]api.Instr{sources[n/36], sources[n/6%6], sources[n%6], middle}, sink, body("Unreachable, End"))
					if valid.Valid(m) == nil {
						holdUnseen(t, m, func() int { return 1 })
						carried++
					}
				}
			}
		}
	}
	if carried < 1000 {
		t.Error("hardly a body may be:", carried)
	}
}

// TestNothingSecretIsSeen carries out bodies by chance that Valid lets be, of secrets that are unlike, and holds that nothing else is.
func TestNothingSecretIsSeen(t *testing.T) {
	r := rand.New(rand.NewPCG(7, 4))
	steps := 0
	for range 500 {
		m := flowWorld(pick(r, nil, []int{api.I32}, []int{api.I64}, []int{api.S32}))
		m.Funcs[0].Body = grow(r, 40, flowInstrs(r), func(l []api.Instr) bool {
			m.Funcs[0].Body = ended(l)
			return len(ended(l)) <= api.MaxBody && valid.Valid(m) == nil
		})
		if err := valid.Valid(m); err != nil {
			t.Fatal("no body that may be:", m.Funcs[0].Body)
		}
		steps += holdUnseen(t, m, func() int { return 1 }, func() int { return -1 }, func() int { return r.IntN(20) }, func() int { return int(r.Uint64()) })
	}
	if steps < 500*20 {
		t.Error("hardly a step was taken:", steps)
	}
}

// TestRunnerSees: what is carried out here would be seen, if a body that may not be let it be.
func TestRunnerSees(t *testing.T) {
	for _, s := range []string{
		"LocalGet 1, If, Nop, End, End", "LocalGet 1, BrIf 0, Nop, End", "LocalGet 1, I32Load 0 0, Drop, End", "LocalGet 1, I32Const 1, I32Store 1 0, End",
		"LocalGet 1, I32Const 3, I32DivU, Drop, End", "I32Const 3, LocalGet 1, I32RemS, Drop, End", "LocalGet 1, LocalSet 0, End", "LocalGet 1, GlobalSet 0, End", "I32Const 0, LocalGet 1, I32Store 0 0, End",
		"I32Const 2, I32Const 3, LocalGet 1, Select, LocalSet 0, End", "GlobalGet 1, LocalTee 5, Drop, End", "I32Const 0, I64Load 1 0, GlobalSet 2, End",
	} {
		m := flowWorld(nil)
		m.Funcs[0].Body = body(s)
		if valid.Valid(m) == nil {
			t.Error("this may be:", s)
		}
		if slices.Equal(seenOf(m, func() int { return 0 }), seenOf(m, func() int { return 1 })) {
			t.Error("nothing is seen of", s)
		}
	}
}
