package rsem_test

import (
	"math"
	"math/rand/v2"
	"slices"
	"testing"

	"oubliette/api"
	"oubliette/rir"
	"oubliette/rsem"
	"oubliette/word"
)

// P15.2

// What code over cells is made of.
func set(dst, n int) api.Ir          { return api.Ir{Op: api.IrConst, Dst: dst, N: n} }
func move(dst, a int) api.Ir         { return api.Ir{Op: api.IrMove, Dst: dst, A: a} }
func op(dst, a, n, b int) api.Ir     { return api.Ir{Op: api.IrOp, Dst: dst, A: a, B: b, N: n} }
func chosen(dst, a, b, c int) api.Ir { return api.Ir{Op: api.IrSelect, Dst: dst, A: a, B: b, C: c} }
func at(n int) api.Ir                { return api.Ir{Op: api.IrLabel, N: n} }
func jump(n int) api.Ir              { return api.Ir{Op: api.IrJump, N: n} }
func jumpIf(a, n int) api.Ir         { return api.Ir{Op: api.IrIf, A: a, N: n} }
func jumpUnless(a, n int) api.Ir     { return api.Ir{Op: api.IrUnless, A: a, N: n} }
func ret(a int) api.Ir               { return api.Ir{Op: api.IrReturn, A: a} }
func stop(n int) api.Ir              { return api.Ir{Op: api.IrStop, N: n} }

func over(cells int, l ...api.Ir) api.Code { return api.Code{Cells: cells, Body: l} }

// holdExec holds what a code comes to over those cells, and that the reckoning says the same.
func holdExec(t *testing.T, c api.Code, cells, want []int, wantV, wantTrap int) {
	t.Helper()
	c0, cells0 := kept(c), kept(cells)
	out, v, trap, e := rsem.Exec(c, cells)
	if e != api.OK || !slices.Equal(out, want) || v != wantV || trap != wantTrap {
		t.Fatalf("%v over %v: %v, %d, %d, %d; want %v, %d, %d", c, cells, out, v, trap, e, want, wantV, wantTrap)
	}
	if !slices.Equal(c.Body, c0.Body) || !slices.Equal(cells, cells0) {
		t.Fatalf("what was handed in is not what it was: %v, %v", c, cells)
	}
	out, v, trap = reckonedExec(c, cells)
	if !mayExec(c, len(cells)) || !slices.Equal(out, want) || v != wantV || trap != wantTrap {
		t.Fatalf("reckoned: %v over %v: %v, %d, %d; want %v, %d, %d", c, cells, out, v, trap, want, wantV, wantTrap)
	}
}

// holdNone holds that a code is refused.
func holdNone(t *testing.T, c api.Code, cells []int) {
	t.Helper()
	out, v, trap, e := rsem.Exec(c, cells)
	if e != api.ErrArg || len(out) != 0 || v != 0 || trap != 0 {
		t.Errorf("%v over %v: %v, %d, %d, %d; want ErrArg", c, cells, out, v, trap, e)
	}
	if mayExec(c, len(cells)) {
		t.Errorf("reckoned: %v over %v may be", c, cells)
	}
}

func TestExecOfTheExample(t *testing.T) {
	holdExec(t, over(2, op(0, 0, api.I32Add, 1), ret(0)), []int{2, 3}, []int{5, 3}, 5, 0)
}

func TestExecOfEachKind(t *testing.T) {
	for _, n := range append(outsides(), 0, 7) {
		holdExec(t, over(3, set(1, n), ret(1)), []int{1, 2, 3}, []int{1, n, 3}, n, 0)
		holdExec(t, over(3, move(2, 0), ret(1)), []int{n, 2, 3}, []int{n, 2, n}, 2, 0)
		holdExec(t, over(1, move(0, 0), ret(0)), one(n), one(n), n, 0)
	}
	holdExec(t, over(3, op(2, 0, api.I64Sub, 1), ret(2)), []int{5, 9, 0}, []int{5, 9, -4}, -4, 0)
	holdExec(t, over(2, op(1, 0, api.I64Eqz, 0), ret(1)), []int{0, 9}, []int{0, 1}, 1, 0)
	// What is reckoned of is trimmed.
	holdExec(t, over(2, op(0, 0, api.I32Add, 1), ret(0)), []int{-1, 1<<40 + 3}, []int{2, 1<<40 + 3}, 2, 0)
	for by, v := range map[int]int{0: 22, 1: 11, -1: 11, math.MinInt: 11} {
		holdExec(t, over(4, chosen(3, 0, 1, 2), ret(3)), []int{11, 22, by, 0}, []int{11, 22, by, v}, v, 0)
		holdExec(t, over(3, chosen(2, 0, 1, 2), ret(2)), []int{11, 22, by}, []int{11, 22, v}, v, 0)
	}
	holdExec(t, over(2, at(5), ret(1)), []int{1, 2}, []int{1, 2}, 2, 0)
	holdExec(t, over(2, jump(5), set(0, 9), at(5), ret(1)), []int{1, 2}, []int{1, 2}, 2, 0)
	for n, jumps := range map[int]bool{0: false, 1: true, -1: true, math.MinInt: true} {
		v := map[bool]int{false: 9, true: 2}
		holdExec(t, over(2, jumpIf(0, 5), set(1, 9), at(5), ret(1)), []int{n, 2}, []int{n, v[jumps]}, v[jumps], 0)
		holdExec(t, over(2, jumpUnless(0, 5), set(1, 9), at(5), ret(1)), []int{n, 2}, []int{n, v[!jumps]}, v[!jumps], 0)
	}
	holdExec(t, over(2, ret(-1), ret(0)), []int{1, 2}, []int{1, 2}, 0, 0)
	holdExec(t, over(2, ret(1), set(1, 9)), []int{1, 2}, []int{1, 2}, 2, 0)
	for _, n := range append(outsides(), 0, 1, 2, 3, 7, 8, 99) {
		holdExec(t, over(2, set(0, 5), stop(n), set(1, 9), ret(1)), []int{1, 2}, []int{5, 2}, 0, n)
	}
}

func TestExecOfEveryNumber(t *testing.T) {
	for _, n := range ops() {
		if _, _, _, ok := word.Arity(n); !ok {
			continue
		}
		for _, a := range append(outsides(), 0, 1, 7, 1<<31, 1<<32-1) {
			for _, b := range append(outsides(), 0, 1, 7, 1<<31, 1<<32-1) {
				v, trap := word.Eval(n, a, b)
				// A trap comes ahead of the cell's being written.
				want, brought := []int{a, b, v}, v
				if trap != 0 {
					want[2], brought = 77, 0
				}
				holdExec(t, over(3, op(2, 0, n, 1), ret(2)), []int{a, b, 77}, want, brought, trap)
			}
		}
	}
}

func TestExecOfTraps(t *testing.T) {
	holdExec(t, over(2, set(0, 5), op(0, 0, api.I32DivU, 1), set(0, 6), ret(0)), []int{1, 0}, []int{5, 0}, 0, api.TrapZero)
	holdExec(t, over(2, op(0, 0, api.I64DivS, 1), ret(0)), []int{math.MinInt, -1}, []int{math.MinInt, -1}, 0, api.TrapOver)
	holdExec(t, over(2, op(0, 0, api.I32DivS, 1), ret(0)), []int{1 << 31, -1}, []int{1 << 31, -1}, 0, api.TrapOver)
}

func TestExecBehindTheLastInstruction(t *testing.T) {
	holdExec(t, over(0), nil, nil, 0, 0)
	holdExec(t, over(0, ret(-1)), nil, nil, 0, 0)
	holdExec(t, over(2), []int{1, 2}, []int{1, 2}, 0, 0)
	holdExec(t, over(2, set(0, 9)), []int{1, 2}, []int{9, 2}, 0, 0)
	holdExec(t, over(1, jump(1), ret(0), at(1)), one(4), one(4), 0, 0)
	holdExec(t, over(1, jumpIf(0, 1), ret(0), at(1)), one(4), one(4), 0, 0)
	holdExec(t, over(1, at(1), jumpUnless(0, 1)), one(4), one(4), 0, 0)
}

func TestExecOfJumpsBack(t *testing.T) {
	sum := over(3, at(1), op(1, 1, api.I64Add, 0), set(2, 1), op(0, 0, api.I64Sub, 2), jumpIf(0, 1), ret(1))
	holdExec(t, sum, []int{4, 0, 9}, []int{0, 10, 1}, 10, 0)
	holdExec(t, sum, []int{100, 3, 9}, []int{0, 5053, 1}, 5053, 0)
	// Each time there are 5 steps.
	holdExec(t, sum, []int{1999, 0, 0}, []int{0, 1999 * 1000, 1}, 1999*1000, 0)
	holdExec(t, sum, []int{2000, 0, 0}, []int{0, 2001 * 1000, 1}, 0, api.TrapRunning)
	holdExec(t, sum, []int{-1, 0, 0}, []int{-2001, -2001 * 1000, 1}, 0, api.TrapRunning)
	holdExec(t, over(0, at(1), jump(1)), nil, nil, 0, api.TrapRunning)
	holdExec(t, over(1, at(1), jumpUnless(0, 1), ret(0)), one(0), one(0), 0, api.TrapRunning)
	holdExec(t, over(1, jump(2), at(1), ret(0), at(2), set(0, 3), jump(1)), one(0), one(3), 3, 0)
}

// TestExecOfAsManyStepsAsThereMayBe: 10000, labels and jumps among them.
func TestExecOfAsManyStepsAsThereMayBe(t *testing.T) {
	const most = 10000
	for name, x := range map[string]api.Ir{"constants": set(0, 7), "labels": at(3), "moves": move(0, 1), "sums": op(0, 1, api.I32And, 1), "choices": chosen(0, 1, 1, 1)} {
		first, last := []int{7, 7}, []int{7, 9}
		for many, traps := range map[int]bool{most - 2: false, most - 1: false, most: true, most + 1: true} {
			body := slices.Repeat([]api.Ir{x}, many)
			if traps {
				for _, end := range []api.Ir{ret(0), stop(api.TrapStop), set(1, 9), at(4), op(0, 0, api.I64DivU, 0)} {
					holdExec(t, over(2, append(body, end)...), first, first, 0, api.TrapRunning)
				}
				continue
			}
			holdExec(t, over(2, append(body, ret(0))...), first, first, 7, 0)
			holdExec(t, over(2, append(body, stop(api.TrapStop))...), first, first, 0, api.TrapStop)
			holdExec(t, over(2, append(body, set(1, 9))...), first, last, 0, 0)
		}
		if t.Failed() {
			t.Fatalf("of %s", name)
		}
	}
	// Behind the last instruction no other one is to come.
	holdExec(t, over(1, slices.Repeat([]api.Ir{set(0, 7)}, most)...), one(0), one(7), 0, 0)
	holdExec(t, over(1, slices.Repeat([]api.Ir{set(0, 7)}, most+1)...), one(0), one(7), 0, api.TrapRunning)
	jumps := slices.Concat(slices.Repeat([]api.Ir{set(0, 7)}, most-2), []api.Ir{jump(1), set(0, 8), at(1)})
	holdExec(t, over(1, jumps...), one(0), one(7), 0, 0)
	holdExec(t, over(1, append(jumps, ret(0))...), one(0), one(7), 0, api.TrapRunning)
}

func TestExecOfHowManyCells(t *testing.T) {
	for _, body := range [][]api.Ir{nil, {ret(-1)}, {set(0, 1), ret(0)}} {
		for _, many := range []int{0, 1, 2, 3} {
			for _, given := range append(outsides(), 0, 1, 2, 3, 4, 1000) {
				if given == many {
					continue
				}
				holdNone(t, over(given, body...), make([]int, many))
			}
		}
	}
	holdNone(t, over(0, ret(0)), nil)
	holdNone(t, over(0, set(0, 1)), nil)
}

// TestExecOfKindsThatNeedMore: each kind beside those that need nothing but cells is refused, wherever it stands.
func TestExecOfKindsThatNeedMore(t *testing.T) {
	fine := []int{api.IrConst, api.IrMove, api.IrOp, api.IrSelect, api.IrLabel, api.IrJump, api.IrIf, api.IrUnless, api.IrReturn, api.IrStop}
	for _, kind := range append(outsides(), -2, 0, 1, 2, 3, 4, 5, 6, 7, 8, 9, 10, 11, 12, 13, 14, 15, 16, 17, 18, 255, 256) {
		x := api.Ir{Op: kind, C: 4}
		if kind == api.IrCall {
			x.Dst = -1
		}
		if slices.Contains(fine, kind) {
			continue
		}
		holdNone(t, over(5, x), make([]int, 5))
		holdNone(t, over(5, x, ret(0)), make([]int, 5))
		holdNone(t, over(5, ret(0), x), make([]int, 5))
	}
}

// TestExecOfCellsThatThereAreNot: each field that is a cell, in turn, where that instruction is carried out, and where it is not.
func TestExecOfCellsThatThereAreNot(t *testing.T) {
	const many = 3
	for _, n := range append(outsides(), -2, 3, 4, 1<<32+1) {
		bad := []api.Ir{
			set(n, 1), move(n, 0), move(0, n), op(n, 0, api.I32Add, 0), op(0, n, api.I32Add, 0), op(0, 0, api.I32Add, n),
			chosen(n, 0, 0, 0), chosen(0, n, 0, 0), chosen(0, 0, n, 0), chosen(0, 0, 0, n), jumpIf(n, 1), jumpUnless(n, 1),
		}
		if n >= 0 {
			bad = append(bad, ret(n))
		}
		for _, x := range bad {
			holdNone(t, over(many, at(1), x), make([]int, many))
			holdNone(t, over(many, at(1), ret(0), x), make([]int, many))
			holdNone(t, over(many, at(1), stop(1), x, ret(0)), make([]int, many))
		}
	}
	last := []api.Ir{set(2, 5), move(2, 2), op(2, 2, api.I32And, 2), chosen(2, 2, 2, 2), jumpIf(2, 1), at(1), jumpUnless(2, 1), ret(2)}
	holdExec(t, over(many, last...), make([]int, many), []int{0, 0, 5}, 5, 0)
}

func TestExecOfNumbersThatThereAreNot(t *testing.T) {
	for n := range 300 {
		if _, _, _, ok := word.Arity(n); ok {
			continue
		}
		holdNone(t, over(1, op(0, 0, n, 0), ret(0)), one(1))
		holdNone(t, over(1, ret(0), op(0, 0, n, 0)), one(1))
	}
	for _, n := range append(outsides(), 1<<32+api.I32Add, -api.I32Add) {
		holdNone(t, over(1, op(0, 0, n, 0), ret(0)), one(1))
	}
}

func TestExecOfLabels(t *testing.T) {
	for _, n := range append(outsides(), -2, 0, 1, 2, 1000) {
		for _, x := range []api.Ir{jump(n), jumpIf(0, n), jumpUnless(0, n)} {
			holdNone(t, over(1, x, ret(0)), one(1))
			holdNone(t, over(1, ret(0), x), one(1))
			holdNone(t, over(1, x, at(n^1), ret(0)), one(1))
			holdNone(t, over(1, x, at(n), at(n), ret(0)), one(1))
			holdNone(t, over(1, at(n), ret(0), x, at(n)), one(1))
			holdNone(t, over(1, at(n), at(n), at(n), ret(0), x), one(1))
			holdExec(t, over(1, x, at(n^1), at(n^1), at(n), ret(0)), one(1), one(1), 1, 0)
		}
	}
	// Where no jump goes there may be as many as one likes.
	holdExec(t, over(1, at(1), at(1), at(1), ret(0)), one(1), one(1), 1, 0)
}

// P15.2 by chance.

// someCode is a code that may be carried out alone, most times.
func someCode(r *rand.Rand) api.Code {
	cells := 1 + r.IntN(5)
	c := api.Code{Cells: cells}
	cell := func() int { return r.IntN(cells) }
	words := []int{api.I32Add, api.I32Sub, api.I32Eqz, api.I32LtU, api.I32DivS, api.I64Add, api.I64Sub, api.I64RemU, api.I64Eqz, api.I64GtS, api.I32Wrap, api.I64ExtendS}
	labels := 1 + r.IntN(4)
	for range 1 + r.IntN(14) {
		switch r.IntN(12) {
		case 0, 1:
			c.Body = append(c.Body, set(cell(), pick(r, 0, 1, 2, -1, 100, int(r.Uint64()))))
		case 2:
			c.Body = append(c.Body, move(cell(), cell()))
		case 3, 4, 5:
			c.Body = append(c.Body, op(cell(), cell(), pick(r, words...), cell()))
		case 6:
			c.Body = append(c.Body, chosen(cell(), cell(), cell(), cell()))
		case 7, 8:
			c.Body = append(c.Body, jumpIf(cell(), 1+r.IntN(labels)))
		case 9:
			c.Body = append(c.Body, jumpUnless(cell(), 1+r.IntN(labels)))
		case 10:
			c.Body = append(c.Body, jump(1+r.IntN(labels)))
		case 11:
			c.Body = append(c.Body, pick(r, ret(cell()), ret(-1), stop(1+r.IntN(8))))
		}
	}
	if r.IntN(2) == 0 {
		c.Body = append(c.Body, ret(cell()))
	}
	for n := 1; n <= labels; n++ {
		c.Body = slices.Insert(c.Body, r.IntN(len(c.Body)+1), at(n))
	}
	if r.IntN(4) == 0 {
		spoil(r, &c)
	}
	return c
}

// spoil changes a field of an instruction, or takes one away, or lays one in.
func spoil(r *rand.Rand, c *api.Code) {
	i := r.IntN(len(c.Body))
	x := &c.Body[i]
	wrong := pick(r, -2, -1, 5, 6, 17, math.MinInt, math.MaxInt)
	switch r.IntN(7) {
	case 0:
		x.Op = r.IntN(18)
	case 1:
		x.Dst = wrong
	case 2:
		// A cell below 0 that is brought is told apart in no more than -1.
		if x.A = wrong; x.Op == api.IrReturn && wrong < 0 {
			x.A = -1
		}
	case 3:
		x.B, x.C = wrong, wrong
	case 4:
		x.N = wrong
	case 5:
		c.Body = slices.Delete(c.Body, i, i+1)
	case 6:
		c.Body = slices.Insert(c.Body, i, at(1))
	}
}

func TestExecByChance(t *testing.T) {
	r := rand.New(rand.NewPCG(15, 2))
	ends := map[int]int{}
	refused, brought := 0, 0
	for range 20000 {
		c := someCode(r)
		cells := make([]int, c.Cells)
		for i := range cells {
			cells[i] = pick(r, 0, 1, 2, 3, -1, 1<<32-1, r.IntN(100), int(r.Uint64()))
		}
		if r.IntN(50) == 0 {
			cells = append(cells, 1)
		}
		if !mayExec(c, len(cells)) {
			holdNone(t, c, cells)
			refused++
			continue
		}
		out, v, trap := reckonedExec(c, cells)
		holdExec(t, c, cells, out, v, trap)
		ends[trap]++
		if v != 0 {
			brought++
		}
	}
	for trap := range api.TrapFault + 1 {
		if ends[trap] < 50 {
			t.Errorf("codes that end by %d: %d", trap, ends[trap])
		}
	}
	if refused < 2000 || brought < 2000 {
		t.Errorf("codes that were refused: %d; that brought something: %d", refused, brought)
	}
}

// TestExecAndRun: of a function that needs nothing but cells both say the same.
func TestExecAndRun(t *testing.T) {
	for _, s := range []string{
		"LocalGet 0, LocalGet 1, I64DivS, End",
		"LocalGet 0, LocalGet 1, I64LtS, If I64, LocalGet 0, Else, LocalGet 1, End, End",
		"LocalGet 0, LocalGet 1, LocalGet 0, I32Wrap, Select, End",
		"Loop, LocalGet 1, LocalGet 0, I64Add, LocalSet 1, LocalGet 0, I64Const 1, I64Sub, LocalTee 0, I64Const 0, I64GtS, BrIf 0, End, LocalGet 1, End",
		"LocalGet 0, I64Eqz, If, Unreachable, End, LocalGet 1, LocalGet 1, I64Const 3, I64RemS, I64Eqz, BrIf 0, Drop, I64Const -1, End",
	} {
		m := alone([]int{api.I64, api.I64}, one(api.I64), s)
		c, e := rir.Lower(m, 0)
		if e != api.OK {
			t.Fatalf("no code of %s", s)
		}
		for _, a := range []int{math.MinInt, -9, -1, 0, 1, 2, 7, 500} {
			for _, b := range []int{math.MinInt, -2, -1, 0, 1, 3, 500} {
				cells := make([]int, c.Cells)
				copy(cells, []int{a, b})
				_, v, trap, e := rsem.Exec(c, cells)
				if o := ran(t, m, api.Script{Args: []int{a, b}, Fuel: 10000}); e != api.OK || o.V != v || o.Trap != trap {
					t.Errorf("%s of %d, %d: %d, %d, %d; run: %+v", s, a, b, v, trap, e, o)
				}
			}
		}
	}
}

// P3

func TestExecAnswersNewMemory(t *testing.T) {
	cells := []int{1, 2, 77, 78}
	c := over(2, set(0, 5), ret(1))
	c.Body = append(c.Body, stop(9))[:2]
	first, _, _, _ := rsem.Exec(c, cells[:2])
	second, _, _, _ := rsem.Exec(c, cells[:2])
	first = append(first[:0], 91, 92, 93, 94, 95)
	if !slices.Equal(second, []int{5, 2}) || !slices.Equal(cells, []int{1, 2, 77, 78}) || c.Body[:3][2] != stop(9) {
		t.Error("something is shared:", first, second, cells)
	}
	none, _, _, _ := rsem.Exec(over(2), cells[:2])
	none[0] = 8
	if cells[0] != 1 {
		t.Error("the cells that were handed in are those that were answered")
	}
}
