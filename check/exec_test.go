package check_test

import (
	"math"
	"slices"
	"testing"

	"oubliette/api"
	"oubliette/check"
	"oubliette/word"
)

// P18.2

// holdExec holds what a code comes to over those places, and that the reckoning says the same.
func holdExec(t *testing.T, c api.Code, l, params []int, wantV, wantTrap int) {
	t.Helper()
	v, trap, e := check.Exec(c, l, params)
	if v != wantV || trap != wantTrap || e != api.OK {
		t.Errorf("%s over %v of %v: %d, %d, %d; want %d, %d", told(c), l, params, v, trap, e, wantV, wantTrap)
	}
	if !mayExec(c, l, len(params)) {
		t.Fatalf("reckoned: %s over %v of %v may not be", told(c), l, params)
	}
	if v, trap := reckonedExec(c, l, params); v != wantV || trap != wantTrap {
		t.Errorf("reckoned: %s over %v of %v: %d, %d; want %d, %d", told(c), l, params, v, trap, wantV, wantTrap)
	}
}

// holdNone holds that a code is not carried out.
func holdNone(t *testing.T, c api.Code, l, params []int) {
	t.Helper()
	if v, trap, e := check.Exec(c, l, params); v != 0 || trap != 0 || e != api.ErrArg {
		t.Errorf("%s over %v of %v: %d, %d, %d; want ErrArg", told(c), l, params, v, trap, e)
	}
	if mayExec(c, l, len(params)) {
		t.Errorf("reckoned: %s over %v of %v may be", told(c), l, params)
	}
}

// placesOf are some that are right for many cells that are apart.
func placesOf(many int) [][]int {
	back := run(66-many, 66)
	slices.Reverse(back)
	return [][]int{run(0, many), run(6, 6+many), run(66-many, 66), back}
}

// holdOver holds what a code comes to over several places that are apart.
func holdOver(t *testing.T, c api.Code, params []int, v, trap int) {
	t.Helper()
	for _, l := range placesOf(c.Cells) {
		holdExec(t, c, l, params, v, trap)
	}
}

func TestExecOfTheExample(t *testing.T) {
	c := over(2, set(0, 0), set(1, 1), op(0, 0, api.I32Add, 1), ret(0))
	holdNone(t, c, ints(0, 0), nil)
	holdExec(t, c, ints(0, 1), nil, 1, 0)
	holdExec(t, c, ints(65, 0), nil, 1, 0)
}

func TestExecOfEachKind(t *testing.T) {
	for _, n := range append(outsides(), -1, 0, 1, 2, 7, 65, 66) {
		holdOver(t, over(3, set(1, n), ret(1)), nil, n, 0)
		holdOver(t, given(3, 1, move(2, 0), ret(2)), ints(n), n, 0)
		holdOver(t, given(3, 1, move(0, 0), ret(0)), ints(n), n, 0)
		holdOver(t, given(3, 1, move(1, 0), move(2, 1), move(0, 2), ret(0)), ints(n), n, 0)
		holdOver(t, over(3, set(0, 5), stop(n), ret(0)), nil, 0, n)
	}
	for by, v := range map[int]int{0: 22, 1: 11, -1: 11, math.MinInt: 11, 1 << 32: 11} {
		holdOver(t, given(4, 3, chosen(3, 0, 1, 2), ret(3)), ints(11, 22, by), v, 0)
		holdOver(t, given(3, 3, chosen(2, 0, 1, 2), ret(2)), ints(11, 22, by), v, 0)
		holdOver(t, given(3, 3, chosen(0, 0, 1, 2), ret(0)), ints(11, 22, by), v, 0)
	}
	holdOver(t, given(2, 2, at(5), ret(1)), ints(1, 2), 2, 0)
	holdOver(t, given(2, 2, jump(5), set(1, 9), at(5), ret(1)), ints(1, 2), 2, 0)
	for n, jumps := range map[int]bool{0: false, 1: true, -1: true, math.MinInt: true, 1 << 32: true} {
		v := map[bool]int{false: 9, true: 2}
		holdOver(t, given(2, 2, jumpIf(0, 5), set(1, 9), at(5), ret(1)), ints(n, 2), v[jumps], 0)
		holdOver(t, given(2, 2, jumpUnless(0, 5), set(1, 9), at(5), ret(1)), ints(n, 2), v[!jumps], 0)
	}
	holdOver(t, given(2, 2, ret(-1), ret(0)), ints(1, 2), 0, 0)
	holdOver(t, given(2, 2, ret(1), set(1, 9)), ints(1, 2), 2, 0)
	holdOver(t, given(2, 2, ret(0)), ints(1, 2), 1, 0)
}

func TestExecOfEveryNumber(t *testing.T) {
	values := append(outsides(), -1, 0, 1, 7, 1<<32-1)
	for n := range 256 {
		c := given(3, 2, op(2, 0, n, 1), ret(2))
		if _, _, _, ok := word.Arity(n); !ok {
			for _, l := range placesOf(3) {
				holdNone(t, c, l, ints(8, 2))
			}
			continue
		}
		for _, a := range values {
			for _, b := range values {
				v, trap := word.Eval(n, a, b)
				holdExec(t, c, ints(7, 2, 9), ints(a, b), v, trap)
				// The sum may stand where one of its parts did, that is not needed any more.
				holdExec(t, c, ints(7, 2, 7), ints(a, b), v, trap)
				holdExec(t, c, ints(7, 2, 2), ints(a, b), v, trap)
			}
		}
	}
	for _, n := range append(outsides(), -1, 256, 1<<32+api.I32Add) {
		holdNone(t, given(3, 2, op(2, 0, n, 1), ret(2)), ints(0, 1, 2), ints(8, 2))
	}
}

func TestExecOfTraps(t *testing.T) {
	c := given(2, 2, op(0, 0, api.I32DivU, 1), set(0, 6), ret(0))
	holdOver(t, c, ints(1, 0), 0, api.TrapZero)
	holdOver(t, c, ints(1, 1<<32), 0, api.TrapZero)
	holdOver(t, c, ints(1, 1), 6, 0)
	holdOver(t, given(2, 2, op(0, 0, api.I64DivS, 1), ret(0)), ints(math.MinInt, -1), 0, api.TrapOver)
	holdOver(t, given(2, 2, op(0, 0, api.I32DivS, 1), ret(0)), ints(1<<31, -1), 0, api.TrapOver)
	holdOver(t, given(2, 2, stop(api.TrapStop), op(0, 0, api.I32DivS, 1)), ints(1, 0), 0, api.TrapStop)
}

// TestExecOfPlacesThatNothingWrote: they hold 77.
func TestExecOfPlacesThatNothingWrote(t *testing.T) {
	for place := range 66 {
		holdExec(t, over(1, ret(0)), ints(place), nil, 77, 0)
		holdExec(t, over(3, sum(1, 1, 2), ret(1)), ints(place, place, 65-place), nil, 154, 0)
		holdExec(t, over(2, move(0, 1), ret(0)), ints(place, place), nil, 77, 0)
		if place > 0 {
			holdExec(t, given(2, 1, set(0, 5), ret(1)), ints(0, place), ints(9), 77, 0)
			holdExec(t, given(2, 1, ret(1)), ints(0, place), ints(9), 77, 0)
		}
	}
	holdExec(t, over(60, ret(59)), append(slices.Repeat(ints(-1), 59), 65), nil, 77, 0)
	holdExec(t, over(2, jumpUnless(0, 1), ret(1), at(1), stop(1)), ints(3, 4), nil, 77, 0)
}

// TestExecOfSharedPlaces: what reads a cell reads its place, whoever wrote it.
func TestExecOfSharedPlaces(t *testing.T) {
	// The parameters come behind the 77, one behind the other; the cell 2 is where one of them is.
	c := given(3, 2, ret(2))
	holdExec(t, c, ints(0, 0, 0), ints(5, 6), 6, 0)
	holdExec(t, c, ints(9, 9, 9), ints(6, 5), 5, 0)
	holdExec(t, c, ints(0, 1, 0), ints(5, 6), 5, 0)
	holdExec(t, c, ints(0, 1, 1), ints(5, 6), 6, 0)
	holdExec(t, c, ints(0, 1, 2), ints(5, 6), 77, 0)
	c = given(5, 4, ret(4))
	for _, x := range [][]int{{3, 3, 3, 3, 4}, {3, 3, 3, 0, 3}, {3, 3, 0, 0, 2}, {3, 0, 0, 0, 1}, {0, 0, 0, 0, 77}} {
		holdExec(t, c, append(x[:4:4], 3), ints(1, 2, 3, 4), x[4], 0)
	}
	// A parameter that is needed, and a cell that nothing writes, that is there with it.
	holdExec(t, given(2, 1, sum(0, 0, 1), ret(0)), ints(8, 8), ints(21), 42, 0)
	holdExec(t, given(2, 1, sum(0, 0, 1), ret(0)), ints(8, 9), ints(21), 98, 0)
	// What was written for one cell ahead.
	holdExec(t, over(3, set(0, 1), move(1, 0), move(2, 1), sum(2, 2, 2), ret(2)), ints(4, 4, 4), nil, 2, 0)
	holdExec(t, over(3, set(0, 1), set(1, 2), sum(2, 0, 1), ret(2)), ints(4, 6, 4), nil, 3, 0)
	holdExec(t, over(3, set(0, 1), set(1, 2), sum(2, 0, 1), ret(2)), ints(4, 6, 6), nil, 3, 0)
	holdNone(t, over(3, set(0, 1), set(1, 2), sum(2, 0, 1), ret(2)), ints(4, 4, 6), nil)
}

// TestExecOfFieldsThatAreNoCells: numbers stay what they are, and what is not read may be anything.
func TestExecOfFieldsThatAreNoCells(t *testing.T) {
	for n := range 4 {
		for _, l := range [][]int{{9, 8, 7, 6}, {1, 0, 3, 2}, {3, 0, 1, 2}} {
			holdExec(t, over(4, set(0, n), ret(0)), l, nil, n, 0)
			holdExec(t, over(4, stop(n)), l, nil, 0, n)
			holdExec(t, given(4, 1, jump(n), at(4), stop(1), at(n), ret(0)), l, ints(5), 5, 0)
			holdExec(t, given(4, 1, jumpIf(0, n), at(4), stop(1), at(n), ret(0)), l, ints(5), 5, 0)
			holdExec(t, given(4, 1, jumpUnless(0, n), at(4), stop(1), at(n), ret(0)), l, ints(5), 0, 1)
		}
	}
	for _, n := range append(outsides(), -2, -1, 0, 1, 2, 3, 60, 65, 66) {
		fine := list(
			api.Ir{Op: api.IrLabel, Dst: n, A: n, B: n, C: n, N: 5, M: n},
			api.Ir{Op: api.IrConst, Dst: 1, A: n, B: n, C: n, N: 3, M: n},
			api.Ir{Op: api.IrMove, Dst: 2, A: 1, B: n, C: n, N: n, M: n},
			api.Ir{Op: api.IrOp, Dst: 2, A: 1, B: 2, C: n, N: api.I64Mul, M: n},
			api.Ir{Op: api.IrSelect, Dst: 2, A: 2, B: 1, C: 1, N: n, M: n},
			api.Ir{Op: api.IrUnless, Dst: n, A: 2, B: n, C: n, N: 5, M: n},
			api.Ir{Op: api.IrIf, Dst: n, A: 0, B: n, C: n, N: 6, M: n},
			api.Ir{Op: api.IrStop, Dst: n, A: n, B: n, C: n, N: 1, M: n},
			api.Ir{Op: api.IrLabel, Dst: n, A: n, B: n, C: n, N: 6, M: n},
			api.Ir{Op: api.IrJump, Dst: n, A: n, B: n, C: n, N: 7, M: n},
			api.Ir{Op: api.IrStop, Dst: n, A: n, B: n, C: n, N: 2, M: n},
			api.Ir{Op: api.IrLabel, Dst: n, A: n, B: n, C: n, N: 7, M: n},
			api.Ir{Op: api.IrReturn, Dst: n, A: 2, B: n, C: n, N: n, M: n},
		)
		c := given(4, 1, fine...)
		c.Labels = n
		for _, l := range [][]int{{0, 1, 2, -1}, {65, 9, 8, 65}, {2, 0, 1, -1}} {
			holdExec(t, c, l, ints(1), 9, 0)
			holdExec(t, c, l, ints(0), 0, 1)
		}
	}
}

func TestExecBehindTheLastInstruction(t *testing.T) {
	holdOver(t, over(0), nil, 0, 0)
	holdOver(t, over(0, ret(-1)), nil, 0, 0)
	holdOver(t, given(2, 2), ints(1, 2), 0, 0)
	holdOver(t, given(1, 1, set(0, 9)), ints(1), 0, 0)
	holdOver(t, given(1, 1, jump(1), ret(0), at(1)), ints(4), 0, 0)
	holdOver(t, given(1, 1, jumpIf(0, 1), ret(0), at(1)), ints(4), 0, 0)
}

// TestExecOfAsManyStepsAsThereMayBe: 10000, labels and jumps among them.
func TestExecOfAsManyStepsAsThereMayBe(t *testing.T) {
	// Each time there are 5 steps; ahead of it the one that begins the sum.
	c := given(3, 1, set(1, 0), at(1), sum(1, 1, 0), set(2, 1), op(0, 0, api.I64Sub, 2), jumpIf(0, 1), ret(1))
	holdOver(t, c, ints(4), 10, 0)
	holdOver(t, c, ints(1999), 1999*1000, 0)
	holdOver(t, c, ints(2000), 0, api.TrapRunning)
	holdOver(t, c, ints(-1), 0, api.TrapRunning)
	holdOver(t, over(0, at(1), jump(1)), nil, 0, api.TrapRunning)
	// Some steps more, ahead of all or at the end: 9995 are made in the loop.
	for more := range 10 {
		v, trap := 1999*1000, 0
		if more > 3 {
			v, trap = 0, api.TrapRunning
		}
		c.Body = slices.Concat(slices.Repeat(list(at(2)), more), list(set(1, 0), at(1), sum(1, 1, 0), set(2, 1), op(0, 0, api.I64Sub, 2), jumpIf(0, 1), ret(1)))
		holdOver(t, c, ints(1999), v, trap)
		if more > 3 {
			continue
		}
		c.Body[len(c.Body)-1] = stop(9)
		holdOver(t, c, ints(1999), 0, 9)
	}
	// Behind the last instruction no other one is to come.
	for more := range 10 {
		c.Body = slices.Concat(list(at(1), sum(1, 0, 0), set(2, 1), op(0, 0, api.I64Sub, 2), jumpIf(0, 1)), slices.Repeat(list(set(2, 1)), more))
		trap := 0
		if more > 5 {
			trap = api.TrapRunning
		}
		holdOver(t, c, ints(1999), 0, trap)
	}
}

func TestExecOfPlacesThatAreWrong(t *testing.T) {
	c := given(3, 2, op(2, 0, api.I32Sub, 1), ret(2))
	holdExec(t, c, ints(0, 1, 0), ints(9, 4), 5, 0)
	for _, l := range [][]int{nil, {}, {0}, {0, 1}, {0, 1, 2, 3}, {0, 0, 1}, {6, 6, 1}, {-1, 0, 1}, {0, -1, 1}, {0, 1, -1}, {0, 1, -2}, {0, 1, 66}, {66, 1, 0}, {0, math.MaxInt, 1}, {math.MinInt, 1, 0}} {
		holdNone(t, c, l, ints(9, 4))
	}
}

func TestExecOfHowManyParameters(t *testing.T) {
	for params := range 5 {
		for many := range 7 {
			c := given(5, params, ret(-1))
			if many == params {
				holdOver(t, c, make([]int, many), 0, 0)
				continue
			}
			for _, l := range placesOf(5) {
				holdNone(t, c, l, make([]int, many))
			}
		}
	}
	holdNone(t, over(0), nil, ints(1))
	holdNone(t, over(2, ret(0)), ints(0, 1), ints(1))
	holdOver(t, over(0), ints(), 0, 0)
	holdOver(t, given(60, 60, ret(59)), run(100, 160), 159, 0)
	for _, many := range []int{59, 61, 1000} {
		holdNone(t, given(60, 60, ret(59)), run(0, 60), make([]int, many))
	}
}

// TestExecOfKindsThatNeedMore: each kind beside those that need nothing but cells is refused, wherever it stands.
func TestExecOfKindsThatNeedMore(t *testing.T) {
	for _, kind := range append(outsides(), append(run(-2, 20), 255, 256)...) {
		x := api.Ir{Op: kind, Dst: 0, A: 1, B: 2, C: 4}
		if isPlain(x) || kind == api.IrOp {
			continue
		}
		for _, c := range []api.Code{over(5, x), over(5, x, ret(-1)), over(5, ret(-1), x)} {
			for _, l := range placesOf(5) {
				holdRight(t, c, l...)
				holdNone(t, c, l, nil)
			}
		}
	}
	holdNone(t, over(0, called(-1, 0)), nil, nil)
	holdNone(t, over(0, ret(-1), called(-1, 0)), nil, nil)
}

// TestExecOfLabels: one that no jump names may stand there more than once.
func TestExecOfLabels(t *testing.T) {
	for _, x := range list(jump(7), jumpIf(0, 7), jumpUnless(0, 7)) {
		holdNone(t, given(1, 1, x, ret(0)), ints(0), ints(5))
		holdNone(t, given(1, 1, x, at(7), at(7), ret(0)), ints(0), ints(5))
		holdNone(t, given(1, 1, ret(0), x), ints(0), ints(5))
		holdOver(t, given(1, 1, x, at(8), at(7), at(8), ret(0)), ints(5), 5, 0)
	}
	for _, n := range append(outsides(), -1, 0) {
		holdOver(t, given(1, 1, jump(n), ret(-1), at(n), ret(0)), ints(5), 5, 0)
	}
}
