package rir_test

import (
	"maps"
	"math"
	"slices"
	"strconv"
	"strings"
	"testing"

	"oubliette/api"
	"oubliette/rir"
	"oubliette/word"
)

// in is an instruction of a module: what stands behind its first byte is a number and another one.
func in(op int, numbers ...int) api.Instr {
	n := append(numbers, 0, 0)
	return api.Instr{Op: op, N: n[0], M: n[1]}
}

// num pushes one of 32 bits.
func num(n int) api.Instr { return in(api.I32Const, n) }

// wide pushes one of 64 bits.
func wide(n int) api.Instr { return in(api.I64Const, n) }

// opens begins a block that brings a type.
func opens(op, t int) api.Instr { return in(op, 0, 1+t) }

func list(l ...api.Instr) []api.Instr { return l }

var (
	end   = in(api.End)
	other = in(api.Else)
	drop  = in(api.Drop)
	stop  = in(api.Unreachable)
	eqz   = in(api.I32Eqz)
)

// What code over cells is made of.
func set(dst, n int) api.Ir      { return api.Ir{Op: api.IrConst, Dst: dst, N: n} }
func move(dst, a int) api.Ir     { return api.Ir{Op: api.IrMove, Dst: dst, A: a} }
func both(op, dst, b int) api.Ir { return api.Ir{Op: api.IrOp, Dst: dst, A: dst, B: b, N: op} }
func label(n int) api.Ir         { return api.Ir{Op: api.IrLabel, N: n} }
func jump(n int) api.Ir          { return api.Ir{Op: api.IrJump, N: n} }
func jumpIf(a, n int) api.Ir     { return api.Ir{Op: api.IrIf, A: a, N: n} }
func jumpUnless(a, n int) api.Ir { return api.Ir{Op: api.IrUnless, A: a, N: n} }
func arg(n, a int) api.Ir        { return api.Ir{Op: api.IrArg, A: a, N: n} }
func called(n, dst int) api.Ir   { return api.Ir{Op: api.IrCall, Dst: dst, N: n} }
func ret(a int) api.Ir           { return api.Ir{Op: api.IrReturn, A: a} }
func trap() api.Ir               { return api.Ir{Op: api.IrStop, N: api.TrapStop} }
func chosen(dst int) api.Ir {
	return api.Ir{Op: api.IrSelect, Dst: dst, A: dst, B: dst + 1, C: dst + 2}
}
func got(dst, n int) api.Ir       { return api.Ir{Op: api.IrGet, Dst: dst, N: n} }
func kept(n, a int) api.Ir        { return api.Ir{Op: api.IrSet, A: a, N: n} }
func load(a, c, n, m int) api.Ir  { return api.Ir{Op: api.IrLoad, Dst: a, A: a, C: c, N: n, M: m} }
func store(a, c, n, m int) api.Ir { return api.Ir{Op: api.IrStore, A: a, B: a + 1, C: c, N: n, M: m} }
func code(l ...api.Ir) []api.Ir   { return l }
func result(t ...int) []int       { return t }

// What a world's functions are called by.
const (
	hostBoth = 0 // of the host: I32, S64; brings I32
	hostNone = 1 // of the host: I64; brings nothing
	ownAsked = 2
	ownMany  = 3 // four I32; brings I64
	ownNone  = 4 // of nothing; brings nothing
	ownGives = 5 // of nothing; brings I32
)

// world is a module with something of each kind, whose function 0 has that body and brings results. Its locals and its globals are I32, I64, S32, S64, from 0 on, the first two locals being parameters: its stack begins at the cell 4.
func world(results []int, body []api.Instr) api.Module {
	return api.Module{
		Sigs: []api.Sig{
			{Params: []int{api.I32, api.I64}, Results: results},
			{Params: []int{api.I32, api.S64}, Results: []int{api.I32}},
			{Params: []int{api.I64}},
			{Params: []int{api.I32, api.I32, api.I32, api.I32}, Results: []int{api.I64}},
			{},
			{Results: []int{api.I32}},
		},
		Imports: []int{1, 2},
		Funcs: []api.Func{
			{Sig: 0, Trusted: true, Locals: []int{api.S32, api.S64}, Body: body},
			{Sig: 3, Locals: []int{api.I64}, Body: list(in(api.LocalGet, 4), in(api.LocalGet, 3), in(api.I64ExtendU), in(api.I64Sub), end)},
			{Sig: 4, Body: list(end)},
			{Sig: 5, Body: list(num(3), end)},
		},
		Mems:    [2]int{3, 4},
		Globals: []api.Global{{T: api.I32, V: 5}, {T: api.I64, V: -7}, {T: api.S32, V: 6}, {T: api.S64, V: 8}},
		Data:    []api.Data{{Mem: 0, At: 1, Bytes: "public"}, {Mem: 1, At: 3, Bytes: "secret"}},
	}
}

// bare is a module of one function alone, without locals: its stack begins at the cell 0.
func bare(results []int, body []api.Instr) api.Module {
	return api.Module{Sigs: []api.Sig{{Results: results}}, Funcs: []api.Func{{Body: body}}}
}

func alike(a, b api.Code) bool {
	return a.Cells == b.Cells && a.Params == b.Params && a.Labels == b.Labels && slices.Equal(a.Body, b.Body)
}

// hold holds what is made of m's function f, and that it is what the reckoning says, too.
func hold(t *testing.T, m api.Module, f int, want api.Code) {
	t.Helper()
	c, e := rir.Lower(m, f)
	if e != api.OK || !alike(c, want) {
		t.Fatalf("%v:\n%+v, %d; want\n%+v", m.Funcs[f].Body, c, e, want)
	}
	if texts, cells, labels := reckoned(m, f); !slices.Equal(texts, rir.Print(want)) || cells != want.Cells || labels != want.Labels {
		t.Errorf("%v: reckoned\n%v, %d, %d; want\n%+v", m.Funcs[f].Body, texts, cells, labels, want)
	}
}

// holdWorld holds what is made of a body in a world, behind what is made of its locals.
func holdWorld(t *testing.T, results []int, body []api.Instr, cells, labels int, want ...api.Ir) {
	t.Helper()
	locals := code(set(2, 0), set(3, 0))
	hold(t, world(results, body), 0, api.Code{Cells: cells, Params: 2, Labels: labels, Body: append(locals, want...)})
}

// holdBare holds what is made of a body without locals.
func holdBare(t *testing.T, results []int, body []api.Instr, cells, labels int, want ...api.Ir) {
	t.Helper()
	hold(t, bare(results, body), 0, api.Code{Cells: cells, Labels: labels, Body: want})
}

// P14.1

func TestTheChaptersExamples(t *testing.T) {
	i32 := result(api.I32)
	holdBare(t, i32, list(num(5), end), 1, 2, set(0, 5), ret(0))
	holdBare(t, i32, list(opens(api.Block, api.I32), num(7), in(api.Br), end, end), 1, 4, set(0, 7), jump(1), label(1), ret(0))
}

func TestTheLeastBody(t *testing.T) {
	holdBare(t, nil, list(end), 0, 2, ret(-1))
	holdWorld(t, nil, list(end), 4, 2, ret(-1))
}

func TestConstants(t *testing.T) {
	for _, n := range []int{0, 1, -1, math.MaxInt32, math.MinInt32, 0x12345678} {
		holdBare(t, result(api.S32), list(num(n), end), 1, 2, set(0, n&math.MaxUint32), ret(0))
	}
	for _, n := range []int{0, 1, -1, math.MaxInt32, math.MinInt32, math.MaxUint32, math.MaxInt, math.MinInt} {
		holdBare(t, result(api.S64), list(wide(n), end), 1, 2, set(0, n), ret(0))
	}
}

func TestEachLocalThatIsNoParameterIsNought(t *testing.T) {
	all := slices.Repeat([]int{api.S64}, api.MaxLocals)
	m := bare(nil, list(end))
	m.Funcs[0].Locals = all
	hold(t, m, 0, api.Code{Cells: 8, Labels: 2, Body: code(set(0, 0), set(1, 0), set(2, 0), set(3, 0), set(4, 0), set(5, 0), set(6, 0), set(7, 0), ret(-1))})
	m.Sigs[0].Params = all[:api.MaxParams]
	hold(t, m, 0, api.Code{Cells: 12, Params: 4, Labels: 2, Body: code(set(4, 0), set(5, 0), set(6, 0), set(7, 0), set(8, 0), set(9, 0), set(10, 0), set(11, 0), ret(-1))})
	m.Funcs[0].Locals = nil
	hold(t, m, 0, api.Code{Cells: 4, Params: 4, Labels: 2, Body: code(ret(-1))})
}

func TestLocalsAndGlobals(t *testing.T) {
	body := list(
		in(api.LocalGet, 0), in(api.LocalGet, 1), in(api.LocalGet, 3),
		in(api.LocalTee, 3), in(api.LocalSet, 3), in(api.LocalSet, 1), in(api.LocalSet, 2),
		in(api.GlobalGet, 2), in(api.GlobalGet, 1), in(api.GlobalSet, 3), in(api.GlobalSet, 2), end)
	holdWorld(t, nil, body, 7, 2,
		move(4, 0), move(5, 1), move(6, 3),
		move(3, 6), move(3, 6), move(1, 5), move(2, 4),
		got(4, 2), got(5, 1), kept(3, 5), kept(2, 4), ret(-1))
}

// words are the instructions that chapter 2 has.
func words() (l []int) {
	for op := range 256 {
		if _, _, _, ok := word.Arity(op); ok {
			l = append(l, op)
		}
	}
	return l
}

func TestEveryNumber(t *testing.T) {
	one := []int{api.I32Eqz, api.I64Eqz, api.I32Wrap, api.I64ExtendS, api.I64ExtendU}
	many := 0
	for _, op := range words() {
		_, from, to, _ := word.Arity(op)
		push := []api.Instr{num(9), wide(9)}[from]
		if slices.Contains(one, op) {
			holdBare(t, result(to), list(push, in(op), end), 1, 2, set(0, 9), both(op, 0, 0), ret(0))
			holdWorld(t, nil, list(num(1), push, in(op), drop, drop, end), 6, 2, set(4, 1), set(5, 9), both(op, 5, 5), ret(-1))
			continue
		}
		many++
		holdBare(t, result(to), list(push, push, in(op), end), 2, 2, set(0, 9), set(1, 9), both(op, 0, 1), ret(0))
		holdWorld(t, nil, list(num(1), push, push, in(op), drop, drop, end), 7, 2, set(4, 1), set(5, 9), set(6, 9), both(op, 5, 6), ret(-1))
	}
	if many != 20+30 {
		t.Errorf("%d of two", many)
	}
}

func TestSelect(t *testing.T) {
	holdBare(t, result(api.I64), list(wide(1), wide(2), num(3), in(api.Select), end), 3, 2, set(0, 1), set(1, 2), set(2, 3), chosen(0), ret(0))
	holdWorld(t, nil, list(num(1), num(2), num(3), num(4), in(api.Select), drop, drop, end), 8, 2, set(4, 1), set(5, 2), set(6, 3), set(7, 4), chosen(5), ret(-1))
}

func TestLoadsAndStores(t *testing.T) {
	for _, offset := range []int{0, 1, 9, math.MaxUint32} {
		for mem := range 2 {
			holdWorld(t, nil, list(num(7), in(api.I32Load, offset, mem), drop, end), 5, 2, set(4, 7), load(4, 4, offset, mem), ret(-1))
			holdWorld(t, nil, list(num(7), in(api.I64Load, offset, mem), drop, end), 5, 2, set(4, 7), load(4, 8, offset, mem), ret(-1))
			holdWorld(t, nil, list(num(7), num(8), in(api.I32Store, offset, mem), end), 6, 2, set(4, 7), set(5, 8), store(4, 4, offset, mem), ret(-1))
			holdWorld(t, nil, list(num(7), wide(8), in(api.I64Store, offset, mem), end), 6, 2, set(4, 7), set(5, 8), store(4, 8, offset, mem), ret(-1))
		}
	}
}

// TestWhatIsNoCell: neither how many bytes are loaded, nor a number, a label or a memory, is a cell.
func TestWhatIsNoCell(t *testing.T) {
	m := bare(nil, list(num(77), in(api.I64Load, 99, 1), drop, end))
	m.Mems = [2]int{0, 5}
	hold(t, m, 0, api.Code{Cells: 1, Labels: 2, Body: code(set(0, 77), load(0, 8, 99, 1), ret(-1))})
	m.Funcs[0].Body = list(num(1), wide(2), in(api.I64Store, 99, 1), end)
	hold(t, m, 0, api.Code{Cells: 2, Labels: 2, Body: code(set(0, 1), set(1, 2), store(0, 8, 99, 1), ret(-1))})
	m = bare(nil, list(in(api.Block), in(api.Block), in(api.Br, 1), end, end, in(api.Call), end))
	hold(t, m, 0, api.Code{Labels: 6, Body: code(jump(1), label(3), label(1), called(0, -1), ret(-1))})
	m = bare(nil, list(opens(api.Block, api.I32), stop, end, drop, end))
	hold(t, m, 0, api.Code{Labels: 4, Body: code(trap(), label(1), ret(-1))})
}

func TestWhatIsNothing(t *testing.T) {
	body := list(in(api.Nop), num(1), in(api.Classify), in(api.Nop), in(api.Declassify), in(api.Block), in(api.Nop), end, drop, end)
	holdWorld(t, nil, body, 5, 4, set(4, 1), label(1), ret(-1))
}

func TestAsHighAsMayBe(t *testing.T) {
	var body []api.Instr
	want := code(set(2, 0), set(3, 0))
	for i := range api.MaxStack {
		body = append(body, num(i))
		want = append(want, set(4+i, i))
	}
	body = append(append(body, slices.Repeat(list(drop), api.MaxStack)...), end)
	hold(t, world(nil, body), 0, api.Code{Cells: 20, Params: 2, Labels: 2, Body: append(want, ret(-1))})
}

func TestIf(t *testing.T) {
	yes := opens(api.If, api.I32)
	holdBare(t, nil, list(num(1), in(api.If), in(api.Nop), end, end), 1, 4, set(0, 1), jumpUnless(0, 1), label(1), ret(-1))
	holdBare(t, nil, list(num(1), in(api.If), other, end, end), 1, 4, set(0, 1), jumpUnless(0, 2), jump(1), label(2), label(1), ret(-1))
	holdBare(t, result(api.I32), list(num(1), yes, num(2), other, num(3), end, end), 1, 4,
		set(0, 1), jumpUnless(0, 2), set(0, 2), jump(1), label(2), set(0, 3), label(1), ret(0))
	holdWorld(t, nil, list(num(9), num(1), yes, num(2), other, num(3), end, drop, drop, end), 6, 4,
		set(4, 9), set(5, 1), jumpUnless(5, 2), set(5, 2), jump(1), label(2), set(5, 3), label(1), ret(-1))
}

func TestIfWithin(t *testing.T) {
	inner := list(num(2), in(api.If), in(api.Nop), other, in(api.Nop), end)
	body := slices.Concat(list(num(1), in(api.If)), inner, list(other), inner, list(end, end))
	holdBare(t, nil, body, 1, 8,
		set(0, 1), jumpUnless(0, 2),
		set(0, 2), jumpUnless(0, 4), jump(3), label(4), label(3),
		jump(1), label(2),
		set(0, 2), jumpUnless(0, 6), jump(5), label(6), label(5),
		label(1), ret(-1))
}

func TestIfWhosePartsEndDead(t *testing.T) {
	yes := opens(api.If, api.I32)
	holdBare(t, result(api.I32), list(num(1), yes, stop, other, num(3), end, end), 1, 4,
		set(0, 1), jumpUnless(0, 2), trap(), label(2), set(0, 3), label(1), ret(0))
	holdBare(t, result(api.I32), list(num(1), yes, num(2), other, stop, drop, num(5), end, end), 1, 4,
		set(0, 1), jumpUnless(0, 2), set(0, 2), jump(1), label(2), trap(), label(1), ret(0))
	holdBare(t, result(api.I32), list(num(1), yes, stop, other, stop, end, end), 1, 4,
		set(0, 1), jumpUnless(0, 2), trap(), label(2), trap(), label(1), ret(0))
	holdBare(t, nil, list(num(1), in(api.If), stop, end, end), 1, 4, set(0, 1), jumpUnless(0, 1), trap(), label(1), ret(-1))
}

func TestLoop(t *testing.T) {
	holdBare(t, nil, list(in(api.Loop), end, end), 0, 4, label(1), ret(-1))
	holdBare(t, nil, list(in(api.Loop), in(api.Br), end, end), 0, 4, label(1), jump(1), ret(-1))
	holdBare(t, result(api.I32), list(opens(api.Loop, api.I32), num(1), num(0), in(api.BrIf), end, end), 2, 4,
		label(1), set(0, 1), set(1, 0), jumpIf(1, 1), ret(0))
	holdBare(t, result(api.I32), list(num(8), opens(api.Loop, api.I32), num(1), num(2), in(api.Br), end, drop, end), 3, 4,
		set(0, 8), label(1), set(1, 1), set(2, 2), jump(1), ret(0))
	holdBare(t, nil, list(in(api.Block), in(api.Loop), in(api.Block), in(api.Br, 1), end, end, end, end), 0, 8,
		label(3), jump(3), label(5), label(1), ret(-1))
}

func TestBr(t *testing.T) {
	holdBare(t, nil, list(in(api.Block), num(1), num(2), in(api.Br), end, end), 2, 4, set(0, 1), set(1, 2), jump(1), label(1), ret(-1))
	holdBare(t, result(api.I64), list(opens(api.Block, api.I64), num(1), wide(2), in(api.Br), end, end), 2, 4,
		set(0, 1), set(1, 2), move(0, 1), jump(1), label(1), ret(0))
	holdWorld(t, nil, list(num(9), opens(api.Block, api.I32), in(api.Block), num(1), num(2), num(3), in(api.Br, 1), end, num(4), end, drop, drop, end), 8, 6,
		set(4, 9), set(5, 1), set(6, 2), set(7, 3), move(5, 7), jump(1), label(3), set(5, 4), label(1), ret(-1))
}

// TestBrToAnIf: an If's condition does not stand on the stack any more when it begins.
func TestBrToAnIf(t *testing.T) {
	yes := opens(api.If, api.I32)
	holdBare(t, result(api.I32), list(num(1), yes, num(2), in(api.Br), other, num(3), in(api.Br), end, end), 1, 4,
		set(0, 1), jumpUnless(0, 2), set(0, 2), jump(1), label(2), set(0, 3), jump(1), label(1), ret(0))
	holdBare(t, result(api.I32), list(num(1), yes, num(2), num(3), in(api.Br), other, num(4), num(5), num(6), in(api.Br), end, end), 3, 4,
		set(0, 1), jumpUnless(0, 2), set(0, 2), set(1, 3), move(0, 1), jump(1), label(2), set(0, 4), set(1, 5), set(2, 6), move(0, 2), jump(1), label(1), ret(0))
	holdBare(t, nil, list(num(1), in(api.If), in(api.Br), end, end), 1, 4, set(0, 1), jumpUnless(0, 1), jump(1), label(1), ret(-1))
}

func TestBrToTheBody(t *testing.T) {
	holdBare(t, nil, list(num(1), in(api.Br), end), 1, 2, set(0, 1), ret(-1))
	holdBare(t, result(api.I32), list(num(1), num(2), in(api.Br), end), 2, 2, set(0, 1), set(1, 2), ret(1))
	holdBare(t, result(api.I32), list(in(api.Loop), num(1), num(2), in(api.Br, 1), end, num(3), end), 2, 4, label(1), set(0, 1), set(1, 2), ret(1), set(0, 3), ret(0))
	holdBare(t, nil, list(opens(api.Block, api.I32), in(api.Br, 1), end, drop, end), 0, 4, ret(-1), label(1), ret(-1))
}

func TestBrIf(t *testing.T) {
	yes := opens(api.Block, api.I32)
	holdBare(t, nil, list(in(api.Block), num(1), num(2), in(api.BrIf), drop, end, end), 2, 4, set(0, 1), set(1, 2), jumpIf(1, 1), label(1), ret(-1))
	holdBare(t, result(api.I32), list(yes, num(1), num(2), in(api.BrIf), end, end), 2, 4, set(0, 1), set(1, 2), jumpIf(1, 1), label(1), ret(0))
	holdBare(t, result(api.I32), list(yes, num(1), num(2), num(3), in(api.BrIf), drop, end, end), 3, 5,
		set(0, 1), set(1, 2), set(2, 3), jumpUnless(2, 5), move(0, 1), jump(1), label(5), label(1), ret(0))
	holdBare(t, result(api.I32), list(num(7), opens(api.If, api.I32), num(1), num(2), in(api.BrIf), other, num(4), num(5), num(6), in(api.BrIf), drop, end, end), 3, 5,
		set(0, 7), jumpUnless(0, 2), set(0, 1), set(1, 2), jumpIf(1, 1), jump(1), label(2),
		set(0, 4), set(1, 5), set(2, 6), jumpUnless(2, 5), move(0, 1), jump(1), label(5), label(1), ret(0))
}

func TestBrIfToTheBody(t *testing.T) {
	holdBare(t, nil, list(num(1), in(api.BrIf), end), 1, 3, set(0, 1), jumpUnless(0, 3), ret(-1), label(3), ret(-1))
	holdBare(t, result(api.I32), list(num(1), num(2), in(api.BrIf), end), 2, 3, set(0, 1), set(1, 2), jumpUnless(1, 3), ret(0), label(3), ret(0))
	holdWorld(t, result(api.I32), list(in(api.Loop), num(1), num(2), num(3), in(api.BrIf, 1), drop, drop, end, num(4), end), 7, 5,
		label(1), set(4, 1), set(5, 2), set(6, 3), jumpUnless(6, 5), ret(5), label(5), set(4, 4), ret(4))
}

// TestLabelsThatAreMade: one by one, in the order in which they are asked for, behind those of all spans.
func TestLabelsThatAreMade(t *testing.T) {
	body := list(num(1), in(api.BrIf), in(api.Block), num(2), in(api.BrIf), num(3), in(api.BrIf, 1), end, num(4), in(api.BrIf), end)
	holdBare(t, nil, body, 1, 7,
		set(0, 1), jumpUnless(0, 5), ret(-1), label(5),
		set(0, 2), jumpIf(0, 1),
		set(0, 3), jumpUnless(0, 6), ret(-1), label(6), label(1),
		set(0, 4), jumpUnless(0, 7), ret(-1), label(7), ret(-1))
}

func TestReturn(t *testing.T) {
	holdBare(t, nil, list(in(api.Return), end), 0, 2, ret(-1))
	holdBare(t, nil, list(num(1), in(api.Return), num(2), drop, end), 1, 2, set(0, 1), ret(-1))
	holdBare(t, result(api.I32), list(num(1), num(2), num(3), in(api.Return), end), 3, 2, set(0, 1), set(1, 2), set(2, 3), ret(2))
	holdWorld(t, result(api.S64), list(in(api.Block), wide(1), in(api.Return), end, wide(2), end), 5, 4, set(4, 1), ret(4), label(1), set(4, 2), ret(4))
}

func TestUnreachable(t *testing.T) {
	holdBare(t, result(api.I32), list(stop, end), 0, 2, trap())
	holdBare(t, nil, list(num(1), stop, stop, end), 1, 2, set(0, 1), trap())
	holdWorld(t, result(api.I32), list(in(api.Block), stop, end, num(1), end), 5, 4, trap(), label(1), set(4, 1), ret(4))
}

func TestCalls(t *testing.T) {
	secret := in(api.Classify)
	holdWorld(t, result(api.I32), list(num(1), wide(2), secret, in(api.Call, hostBoth), end), 6, 2, set(4, 1), set(5, 2), arg(0, 4), arg(1, 5), called(0, 4), ret(4))
	holdWorld(t, nil, list(num(9), wide(1), in(api.Call, hostNone), drop, end), 6, 2, set(4, 9), set(5, 1), arg(0, 5), called(1, -1), ret(-1))
	holdWorld(t, nil, list(num(1), wide(2), in(api.Call, ownAsked), end), 6, 2, set(4, 1), set(5, 2), arg(0, 4), arg(1, 5), called(2, -1), ret(-1))
	holdWorld(t, result(api.I64), list(num(9), num(1), num(2), num(3), num(4), in(api.Call, ownMany), in(api.Return), end), 9, 2,
		set(4, 9), set(5, 1), set(6, 2), set(7, 3), set(8, 4), arg(0, 5), arg(1, 6), arg(2, 7), arg(3, 8), called(3, 5), ret(5))
	holdWorld(t, nil, list(in(api.Call, ownNone), end), 4, 2, called(4, -1), ret(-1))
	holdWorld(t, nil, list(num(9), in(api.Call, ownGives), drop, drop, end), 6, 2, set(4, 9), called(5, 5), ret(-1))
}

func TestEachFunctionHasItsOwnCode(t *testing.T) {
	m := world(nil, list(end))
	hold(t, m, 1, api.Code{Cells: 7, Params: 4, Labels: 2, Body: code(set(4, 0), move(5, 4), move(6, 3), both(api.I64ExtendU, 6, 6), both(api.I64Sub, 5, 6), ret(5))})
	hold(t, m, 2, api.Code{Labels: 2, Body: code(ret(-1))})
	hold(t, m, 3, api.Code{Cells: 1, Labels: 2, Body: code(set(0, 3), ret(0))})
}

// TestDeadCode: nothing comes of it, whatever it is; labels of its blocks are not there, but count.
func TestDeadCode(t *testing.T) {
	dead := list(
		num(1), wide(2), drop, in(api.Select), drop, in(api.LocalGet, 0), in(api.LocalTee, 0), in(api.LocalSet, 0), in(api.GlobalGet, 0), in(api.GlobalSet, 0),
		in(api.I32Load), in(api.I64Load), drop, in(api.I32Store), in(api.I64Store), in(api.I32Add), drop, in(api.I64Eqz), drop, in(api.Call, ownMany), drop,
		in(api.BrIf), in(api.Loop), num(3), in(api.BrIf), num(4), in(api.BrIf, 1), end, in(api.Block), in(api.Br, 1), end, in(api.Return), stop)
	for _, first := range []api.Instr{stop, in(api.Return), in(api.Br)} {
		made := code(ret(-1))
		if first == stop {
			made = code(trap())
		}
		holdWorld(t, nil, slices.Concat(list(first), dead, list(end)), 4, 6, made...)
	}
	holdWorld(t, nil, slices.Concat(list(in(api.Block), stop), dead, list(end, num(1), drop, end)), 5, 8, trap(), label(1), set(4, 1), ret(-1))
}

// TestBlocksThatBeginDead: not even of their Else and their End comes anything.
func TestBlocksThatBeginDead(t *testing.T) {
	holdBare(t, nil, list(stop, in(api.Block), end, in(api.Loop), in(api.Br), end, end), 0, 6, trap())
	holdBare(t, nil, list(stop, in(api.If), in(api.Nop), other, in(api.Nop), end, end), 0, 4, trap())
	holdBare(t, nil, list(stop, num(1), in(api.If), in(api.Block), in(api.Br, 1), end, end, end), 0, 6, trap())
	holdBare(t, nil, list(in(api.Block), stop, in(api.If), other, num(1), in(api.BrIf, 1), end, end, end), 0, 6, trap(), label(1), ret(-1))
	holdBare(t, nil, list(in(api.Loop), stop, in(api.Loop), end, in(api.Block), end, end, in(api.Nop), end), 0, 8, label(1), trap(), ret(-1))
}

func wrongModules() map[string]api.Module {
	data := world(nil, list(end))
	data.Data[0].At = 3
	sig := world(nil, list(end))
	sig.Imports = []int{6}
	behind := world(nil, list(end))
	behind.Funcs[3].Body = list(end)
	return map[string]api.Module{
		"nothing is brought":        bare(result(api.I32), list(end)),
		"nothing is popped":         bare(nil, list(drop, end)),
		"a branch too far":          bare(nil, list(in(api.Br, 1), end)),
		"a branch by a secret":      bare(nil, list(num(1), in(api.Classify), in(api.If), end, end)),
		"no such local":             bare(nil, list(in(api.LocalGet), drop, end)),
		"no such call":              bare(nil, list(in(api.Call, 1), end)),
		"no such memory":            bare(nil, list(num(1), in(api.I32Load), drop, end)),
		"an If without Else":        bare(result(api.I32), list(num(1), opens(api.If, api.I32), num(1), end, end)),
		"no body":                   bare(nil, nil),
		"no End":                    bare(nil, list(in(api.Nop))),
		"an End too many":           bare(nil, list(end, end)),
		"no instruction":            bare(nil, list(in(0xff), end)),
		"a constant of 33 bits":     bare(nil, list(num(1<<31), drop, end)),
		"declassified":              bare(nil, list(num(1), in(api.Declassify), drop, end)),
		"too deep":                  bare(nil, slices.Concat(slices.Repeat(list(in(api.Block)), 9), slices.Repeat(list(end), 10))),
		"too high":                  bare(nil, slices.Concat(slices.Repeat(list(num(1)), 17), slices.Repeat(list(drop), 17), list(end))),
		"too long":                  bare(nil, slices.Concat(slices.Repeat(list(in(api.Nop)), api.MaxBody), list(end))),
		"data beyond their memory":  data,
		"no such signature":         sig,
		"another function is wrong": behind,
	}
}

func TestModulesThatMayNotBe(t *testing.T) {
	for name, m := range wrongModules() {
		for f := range m.Funcs {
			if c, e := rir.Lower(m, f); e != api.ErrInvalid || !alike(c, api.Code{}) {
				t.Errorf("%s: function %d: %+v, %d", name, f, c, e)
			}
		}
	}
}

func TestFunctionsThatAreNotThere(t *testing.T) {
	numbers := []int{math.MinInt, math.MinInt + 1, -1 << 32, -1, 4, 5, 1 << 32, math.MaxInt - 1, math.MaxInt}
	for _, f := range numbers {
		if c, e := rir.Lower(world(nil, list(end)), f); e != api.ErrInvalid || !alike(c, api.Code{}) {
			t.Errorf("function %d: %+v, %d", f, c, e)
		}
	}
	for _, f := range append(numbers, 0) {
		if c, e := rir.Lower(api.Module{}, f); e != api.ErrInvalid || !alike(c, api.Code{}) {
			t.Errorf("function %d of none: %+v, %d", f, c, e)
		}
	}
}

// P14.2

// kind is what a kind of lowered instructions does: which of A, B and C it reads, and whether it writes Dst.
type kind struct {
	reads  string
	writes bool
}

func kinds() map[int]kind {
	return map[int]kind{
		api.IrConst: {"", true}, api.IrMove: {"A", true}, api.IrOp: {"AB", true}, api.IrSelect: {"ABC", true},
		api.IrLoad: {"A", true}, api.IrStore: {"AB", false}, api.IrGet: {"", true}, api.IrSet: {"A", false},
		api.IrLabel: {"", false}, api.IrJump: {"", false}, api.IrIf: {"A", false}, api.IrUnless: {"A", false},
		api.IrArg: {"A", false}, api.IrCall: {"", true}, api.IrReturn: {"A", false}, api.IrStop: {"", false},
	}
}

func holdCells(t *testing.T, x api.Ir) {
	t.Helper()
	k := kinds()[x.Op]
	var reads []int
	for _, field := range k.reads {
		reads = append(reads, map[rune]int{'A': x.A, 'B': x.B, 'C': x.C}[field])
	}
	slices.Sort(reads)
	reads = slices.Compact(reads)
	if x.Op == api.IrReturn && x.A < 0 {
		reads = nil
	}
	writes := -1
	if k.writes {
		writes = x.Dst
	}
	if u := rir.Uses(x); !slices.Equal(u, reads) {
		t.Errorf("Uses(%+v) = %v; want %v", x, u, reads)
	}
	if d := rir.Defs(x); d != writes {
		t.Errorf("Defs(%+v) = %d; want %d", x, d, writes)
	}
}

func TestUsesAndDefsOfEachKind(t *testing.T) {
	numbers := []int{math.MinInt, -2, -1, 0, 1, 2, 60, math.MaxInt}
	others := []int{math.MinInt, -1, 0, 17, 18, 1 << 32, 1<<32 + api.IrSelect, math.MaxInt}
	for _, op := range slices.AppendSeq(others, maps.Keys(kinds())) {
		for _, a := range numbers {
			for _, b := range numbers {
				for _, c := range numbers {
					holdCells(t, api.Ir{Op: op, Dst: c, A: a, B: b, C: c, N: 33, M: 44})
					holdCells(t, api.Ir{Op: op, Dst: 55, A: a, B: b, C: c, N: -33, M: -44})
				}
			}
		}
	}
}

func TestUsesAndDefsPutDownByHand(t *testing.T) {
	for _, c := range []struct {
		x    api.Ir
		uses []int
		defs int
	}{
		{api.Ir{Op: api.IrSelect, Dst: 7, A: 9, B: 4, C: 6}, []int{4, 6, 9}, 7},
		{api.Ir{Op: api.IrSelect, Dst: 4, A: 4, B: 9, C: 4}, []int{4, 9}, 4},
		{api.Ir{Op: api.IrSelect, Dst: 4, A: 5, B: 5, C: 5}, []int{5}, 4},
		{api.Ir{Op: api.IrOp, Dst: 3, A: 8, B: 2, C: 1, N: 6}, []int{2, 8}, 3},
		{api.Ir{Op: api.IrOp, Dst: 3, A: 3, B: 3}, []int{3}, 3},
		{api.Ir{Op: api.IrStore, Dst: 5, A: 2, B: 1, C: 4}, []int{1, 2}, -1},
		{api.Ir{Op: api.IrLoad, Dst: 5, A: 2, B: 1, C: 4}, []int{2}, 5},
		{api.Ir{Op: api.IrReturn, Dst: 5, A: 0}, []int{0}, -1},
		{api.Ir{Op: api.IrReturn, Dst: 5, A: -1}, nil, -1},
		{api.Ir{Op: api.IrCall, Dst: -1, A: 3, N: 2}, nil, -1},
		{api.Ir{Op: api.IrCall, Dst: 0, A: 3, N: 2}, nil, 0},
		{api.Ir{}, nil, -1},
	} {
		if u, d := rir.Uses(c.x), rir.Defs(c.x); !slices.Equal(u, c.uses) || d != c.defs {
			t.Errorf("%+v: %v, %d; want %v, %d", c.x, u, d, c.uses, c.defs)
		}
	}
}

func TestPrint(t *testing.T) {
	for _, c := range []api.Code{{}, {Cells: 3, Params: 2, Labels: 1}, {Body: code()}} {
		if texts := rir.Print(c); len(texts) != 0 {
			t.Errorf("%q of nothing", texts)
		}
	}
	c := api.Code{Body: code(
		api.Ir{Op: 1, Dst: 2, A: 3, B: 4, C: 5, N: 6, M: 7}, api.Ir{}, ret(-1),
		api.Ir{Op: math.MinInt, Dst: math.MaxInt, A: -10, B: 1 << 31, C: math.MinInt32, N: math.MaxUint32, M: -1 << 32})}
	want := []string{"1 2 3 4 5 6 7", "0 0 0 0 0 0 0", "15 0 -1 0 0 0 0",
		"-9223372036854775808 9223372036854775807 -10 2147483648 -2147483648 4294967295 -4294967296"}
	if texts := rir.Print(c); !slices.Equal(texts, want) {
		t.Errorf("%q; want %q", texts, want)
	}
}

// TestPrintIsReadAgain: a text is what there is to know of its instruction.
func TestPrintIsReadAgain(t *testing.T) {
	for _, m := range grownModules(14, 3, 30) {
		c, _ := rir.Lower(m, 0)
		for at, text := range rir.Print(c) {
			var n [7]int
			for i, digits := range strings.Split(text, " ") {
				n[i], _ = strconv.Atoi(digits)
			}
			if x := (api.Ir{Op: n[0], Dst: n[1], A: n[2], B: n[3], C: n[4], N: n[5], M: n[6]}); x != c.Body[at] {
				t.Errorf("%q of %+v", text, c.Body[at])
			}
		}
	}
}
