package check_test

import (
	"math/rand/v2"
	"slices"
	"testing"

	"oubliette/alloc"
	"oubliette/api"
	"oubliette/check"
	"oubliette/rir"
	"oubliette/rsem"
)

// P18.3: over right places there comes out what comes out over cells of their own.

// begun is c, with each cell that is no parameter written ahead of all else, if it is needed from the beginning on.
func begun(r *rand.Rand, c api.Code) api.Code {
	k := reckoned(c)
	for cell := range c.Cells {
		if cell >= c.Params && k.needed(cell) {
			c.Body = slices.Insert(c.Body, 0, set(cell, someNumber(r)))
		}
	}
	return c
}

// holdOwn carries c out over cells of their own, of which those that are no parameters hold anything, and over several places that are right; and tells how it ended, and how many cells shared a place.
func holdOwn(t *testing.T, r *rand.Rand, c api.Code) (v, trap, shared int) {
	t.Helper()
	cells := make([]int, c.Cells)
	for k := range cells {
		cells[k] = someNumber(r)
	}
	_, v, trap, e := rsem.Exec(c, cells)
	if e != api.OK {
		t.Fatalf("%s: %d", told(c), e)
	}
	l, _ := alloc.Alloc(c)
	for _, l := range [][]int{l, moved(r, l), gathered(r, reckoned(c)), gathered(r, reckoned(c)), run(0, c.Cells), run(6, 6+c.Cells)} {
		v2, trap2, e := check.Exec(c, l, cells[:c.Params])
		if v2 != v || trap2 != trap || e != api.OK {
			t.Fatalf("%s over %v of %v: %d, %d, %d; over cells of their own %d, %d", told(c), l, cells[:c.Params], v2, trap2, e, v, trap)
		}
		for k, place := range l {
			if place >= 0 && slices.Contains(l[:k], place) {
				shared++
			}
		}
	}
	return v, trap, shared
}

func TestCodesOverTheirPlaces(t *testing.T) {
	r := rand.New(rand.NewPCG(18, 5))
	traps, brought, together := map[int]int{}, 0, 0
	for i := range 8000 {
		most, long := 8, 40
		if i%100 == 0 {
			most, long = 60, 300
		}
		v, trap, shared := holdOwn(t, r, begun(r, someCode(r, most, long, somePlain)))
		traps[trap]++
		if v != 0 {
			brought++
		}
		together += shared
	}
	for _, trap := range []int{api.NoTrap, api.TrapStop, api.TrapZero, api.TrapRunning} {
		if traps[trap] < 50 {
			t.Errorf("codes that end by %d: %d", trap, traps[trap])
		}
	}
	if brought < 500 || together < 10000 {
		t.Errorf("%d codes bring something; %d cells are where others are", brought, together)
	}
}

// TestLoweredFunctionsOverTheirPlaces: they write their cells ahead of reading them themselves.
func TestLoweredFunctionsOverTheirPlaces(t *testing.T) {
	r := rand.New(rand.NewPCG(18, 6))
	in := func(op, n int) api.Instr { return api.Instr{Op: op, N: n} }
	get0, get1, get2, end := in(api.LocalGet, 0), in(api.LocalGet, 1), in(api.LocalGet, 2), in(api.End, 0)
	for _, body := range [][]api.Instr{
		{get0, end},
		{get1, get0, in(api.I64Sub, 0), in(api.LocalTee, 2), get2, in(api.I64Mul, 0), end},
		// All of n, n - 1 and so on are summed up, of the last few bits of what is given.
		{get0, in(api.I64Const, 15), in(api.I64And, 0), in(api.LocalSet, 0), in(api.Loop, 0), get2, get0, in(api.I64Add, 0), in(api.LocalSet, 2),
			get0, in(api.I64Const, 1), in(api.I64Sub, 0), in(api.LocalTee, 0), in(api.I64Const, 0), in(api.I64GtS, 0), in(api.BrIf, 0), end, get2, end},
		// The greater one is divided by the lesser one.
		{get0, get1, in(api.I64LtU, 0), {Op: api.If, M: 1 + api.I64}, get1, get0, in(api.I64DivU, 0), in(api.Else, 0), get0, get1, in(api.I64DivU, 0), end, end},
		{get0, get1, get0, get1, get0, get1, get0, get1, in(api.I64Sub, 0), in(api.I64Xor, 0), in(api.I64Sub, 0), in(api.I64Rotl, 0), in(api.I64Sub, 0), in(api.I64Mul, 0), get0, in(api.I32Wrap, 0), in(api.Select, 0), end},
		{get0, in(api.I64Eqz, 0), in(api.If, 0), in(api.Unreachable, 0), end, in(api.Loop, 0), get1, in(api.I64Eqz, 0), in(api.BrIf, 0), end, get1, end},
	} {
		m := api.Module{
			Sigs:  []api.Sig{{Params: []int{api.I64, api.I64}, Results: []int{api.I64}}},
			Funcs: []api.Func{{Locals: []int{api.I64}, Body: body}},
		}
		c, e := rir.Lower(m, 0)
		if e != api.OK {
			t.Fatalf("no code of %v: %d", body, e)
		}
		for range 100 {
			holdOwn(t, r, c)
		}
	}
}
