package alloc_test

import (
	"math"
	"slices"
	"strconv"
	"strings"
	"testing"

	"oubliette/alloc"
	"oubliette/api"
	"oubliette/rir"
)

// What code over cells is made of.
func set(dst, n int) api.Ir          { return api.Ir{Op: api.IrConst, Dst: dst, N: n} }
func move(dst, a int) api.Ir         { return api.Ir{Op: api.IrMove, Dst: dst, A: a} }
func op(dst, a, n, b int) api.Ir     { return api.Ir{Op: api.IrOp, Dst: dst, A: a, B: b, N: n} }
func sum(dst, a, b int) api.Ir       { return op(dst, a, api.I64Add, b) }
func chosen(dst, a, b, c int) api.Ir { return api.Ir{Op: api.IrSelect, Dst: dst, A: a, B: b, C: c} }
func load(dst, a, c, n int) api.Ir   { return api.Ir{Op: api.IrLoad, Dst: dst, A: a, C: c, N: n} }
func store(a, b, c, n int) api.Ir    { return api.Ir{Op: api.IrStore, A: a, B: b, C: c, N: n} }
func got(dst, n int) api.Ir          { return api.Ir{Op: api.IrGet, Dst: dst, N: n} }
func kept(n, a int) api.Ir           { return api.Ir{Op: api.IrSet, A: a, N: n} }
func at(n int) api.Ir                { return api.Ir{Op: api.IrLabel, N: n} }
func jump(n int) api.Ir              { return api.Ir{Op: api.IrJump, N: n} }
func jumpIf(a, n int) api.Ir         { return api.Ir{Op: api.IrIf, A: a, N: n} }
func jumpUnless(a, n int) api.Ir     { return api.Ir{Op: api.IrUnless, A: a, N: n} }
func arg(n, a int) api.Ir            { return api.Ir{Op: api.IrArg, A: a, N: n} }
func called(dst, n int) api.Ir       { return api.Ir{Op: api.IrCall, Dst: dst, N: n} }
func ret(a int) api.Ir               { return api.Ir{Op: api.IrReturn, A: a} }
func stop(n int) api.Ir              { return api.Ir{Op: api.IrStop, N: n} }

func list(l ...api.Ir) []api.Ir { return l }

// over is a code of so many cells, none of them a parameter.
func over(cells int, l ...api.Ir) api.Code { return api.Code{Cells: cells, Body: l} }

// given is one whose first cells are parameters.
func given(cells, params int, l ...api.Ir) api.Code {
	return api.Code{Cells: cells, Params: params, Body: l}
}

// cells is the set of these.
func cells(l ...int) (set int) {
	for _, k := range l {
		set |= 1 << k
	}
	return set
}

// all is the set of the first many cells.
func all(many int) int { return 1<<many - 1 }

// run has the numbers from one on, up to but without another.
func run(from, to int) (l []int) {
	for n := from; n < to; n++ {
		l = append(l, n)
	}
	return l
}

// outsides are numbers far from any cell, place or label.
func outsides() []int {
	return []int{math.MinInt, math.MinInt + 1, math.MinInt32, -1 << 32, -1, 1 << 31, 1 << 32, 1<<32 + 1, math.MaxInt - 1, math.MaxInt}
}

// told is a code in an error's text, that is not to be endless.
func told(c api.Code) string {
	text := strings.Join(rir.Print(c), "; ")
	if len(text) > 1500 {
		text = text[:1500] + " .."
	}
	return strconv.Itoa(c.Cells) + " cells, " + strconv.Itoa(c.Params) + " given: " + text
}

// holdSets holds which cells cross calls, and which are named, and that the reckoning says the same.
func holdSets(t *testing.T, c api.Code, crosses, named int) {
	t.Helper()
	if set, e := alloc.Crosses(c); set != crosses || e != api.OK {
		t.Errorf("%s: Crosses: %b, %d; want %b", told(c), set, e, crosses)
	}
	if set, e := alloc.Named(c); set != named || e != api.OK {
		t.Errorf("%s: Named: %b, %d; want %b", told(c), set, e, named)
	}
	r := reckoned(c)
	if set := r.set(r.crosses); set != crosses {
		t.Errorf("%s: reckoned: crosses: %b; want %b", told(c), set, crosses)
	}
	if set := r.set(r.isNamed); set != named {
		t.Errorf("%s: reckoned: named: %b; want %b", told(c), set, named)
	}
}

// holdPlaces holds the place of each cell, and that the reckoning says the same.
func holdPlaces(t *testing.T, c api.Code, want ...int) {
	t.Helper()
	if l, e := alloc.Alloc(c); !slices.Equal(l, want) || e != api.OK {
		t.Errorf("%s: Alloc: %v, %d; want %v", told(c), l, e, want)
	}
	if l := reckoned(c).places(); !slices.Equal(l, want) {
		t.Errorf("%s: reckoned: places: %v; want %v", told(c), l, want)
	}
}

// holdRefused holds that a code does not fit.
func holdRefused(t *testing.T, c api.Code) {
	t.Helper()
	if set, e := alloc.Crosses(c); set != 0 || e != api.ErrArg {
		t.Errorf("%s: Crosses: %b, %d", told(c), set, e)
	}
	if set, e := alloc.Named(c); set != 0 || e != api.ErrArg {
		t.Errorf("%s: Named: %b, %d", told(c), set, e)
	}
	if l, e := alloc.Alloc(c); len(l) != 0 || e != api.ErrArg {
		t.Errorf("%s: Alloc: %v, %d", told(c), l, e)
	}
	if reckonedFits(c) {
		t.Errorf("%s: reckoned: fits", told(c))
	}
}

// P17.1, P17.2: what does not fit

func TestCodesThatDoNotFit(t *testing.T) {
	for _, n := range append(outsides(), -2, 61, 62, 63, 64, 65, 1000) {
		holdRefused(t, over(n))
		holdRefused(t, over(n, ret(-1)))
	}
	for _, n := range append(outsides(), -2, 4, 5, 60, 61, 64) {
		holdRefused(t, given(3, n, ret(-1)))
	}
	holdRefused(t, given(-1, -1))
	holdRefused(t, given(61, 61))
	for _, n := range append(outsides(), -2, 3, 4, 60, 63, 64, 65) {
		for _, x := range list(set(n, 1), move(0, n), sum(0, 1, n), chosen(0, 1, 2, n), load(n, 0, 4, 0), store(0, n, 4, 0), got(n, 0), kept(0, n), jumpIf(n, 7), arg(0, n)) {
			holdRefused(t, over(3, at(7), x, ret(0)))
		}
		if n != -1 {
			holdRefused(t, over(3, called(n, 0), ret(0)))
		}
		if n >= 0 {
			holdRefused(t, over(3, ret(n)))
		}
	}
	for _, x := range list(jump(7), jumpIf(0, 7), jumpUnless(0, 7)) {
		holdRefused(t, over(3, x, at(8), ret(0)))
		holdRefused(t, over(3, x, at(7), at(7), ret(0)))
	}
	holdRefused(t, over(3, slices.Repeat(list(set(0, 1)), 1001)...))
}

// TestCodesAtTheBounds: they fit.
func TestCodesAtTheBounds(t *testing.T) {
	for _, c := range []api.Code{over(0), over(0, called(-1, 0), ret(-1)), {Labels: math.MinInt}, {Body: list()}} {
		holdSets(t, c, 0, 0)
		holdPlaces(t, c)
	}
	holdSets(t, over(60), 0, 0)
	holdPlaces(t, over(60), slices.Repeat([]int{-1}, 60)...)
	holdSets(t, given(60, 60), 0, all(60))
	holdPlaces(t, given(60, 60), slices.Repeat([]int{0}, 60)...)
	long := slices.Repeat(list(kept(0, 0)), 1000)
	holdSets(t, over(1, long...), 0, 1)
	holdPlaces(t, over(1, long...), 0)
	long[0], long[998], long[999] = at(5), called(-1, 0), jump(5)
	holdSets(t, over(1, long...), 1, 1)
	holdPlaces(t, over(1, long...), 6)
}

// P17.1: Crosses

func TestCrosses(t *testing.T) {
	holdSets(t, over(1, set(0, 1), called(-1, 0), ret(0)), 1, 1)
	// Not what the call brings, but what it leaves.
	holdSets(t, over(1, set(0, 1), called(0, 0), ret(0)), 0, 1)
	holdSets(t, over(2, set(0, 1), called(1, 0), sum(0, 0, 1), ret(0)), cells(0), cells(0, 1))
	holdSets(t, over(2, set(0, 1), set(1, 1), called(0, 0), sum(0, 0, 1), ret(0)), cells(1), cells(0, 1))
	// What one call brings is there behind the next one, too.
	holdSets(t, over(2, called(0, 0), called(1, 0), sum(0, 0, 1), ret(0)), cells(0), cells(0, 1))
	holdSets(t, over(2, called(0, 0), called(0, 0), ret(0)), 0, cells(0))
	holdSets(t, over(2, called(0, 0), called(-1, 0), ret(0)), cells(0), cells(0))
	// What is needed at the call alone, or not at all, or is written behind it.
	holdSets(t, over(2, set(0, 1), arg(0, 0), called(1, 0), ret(1)), 0, cells(0, 1))
	holdSets(t, over(2, set(0, 1), called(-1, 0), ret(-1)), 0, cells(0))
	holdSets(t, over(2, set(0, 1), called(-1, 0), set(0, 2), ret(0)), 0, cells(0))
	holdSets(t, over(2, set(0, 1), called(1, 0), move(0, 1), ret(0)), 0, cells(0, 1))
	holdSets(t, over(2, set(0, 1), called(-1, 0)), 0, cells(0))
	// A parameter, and a cell that none writes.
	holdSets(t, given(3, 2, called(-1, 0), store(1, 2, 4, 0), ret(0)), cells(0, 1, 2), cells(0, 1, 2))
	holdSets(t, given(3, 2, called(0, 0), store(1, 2, 4, 0), ret(0)), cells(1, 2), cells(0, 1, 2))
	// Where nothing comes by.
	holdSets(t, over(2, ret(-1), called(-1, 0), ret(1)), cells(1), cells(1))
	holdSets(t, over(2, set(0, 1), called(-1, 0), stop(1), ret(0)), 0, cells(0))
}

// TestCrossesOfEachKind: a call alone is one, whatever it calls.
func TestCrossesOfEachKind(t *testing.T) {
	for _, x := range list(set(0, 1), move(0, 1), sum(0, 1, 2), chosen(0, 1, 2, 1), load(0, 1, 4, 0), store(0, 1, 4, 0), got(0, 1), kept(1, 0), at(1), jumpIf(0, 9), jumpUnless(0, 9), arg(1, 0)) {
		holdSets(t, over(3, at(9), x, store(0, 1, 4, 0), ret(2)), 0, cells(0, 1, 2))
	}
	for _, kind := range []int{0, 17, -1, math.MinInt, math.MaxInt} {
		holdSets(t, over(3, api.Ir{Op: kind, Dst: 0, A: 1, B: 2}, ret(2)), 0, cells(2))
	}
	for _, n := range append(outsides(), 0, 1, 7, 8) {
		holdSets(t, over(3, called(0, n), store(0, 1, 4, 0), ret(2)), cells(1, 2), cells(0, 1, 2))
		holdSets(t, over(3, api.Ir{Op: api.IrCall, Dst: -1, A: n, B: n, C: n, N: n, M: n}, ret(2)), cells(2), cells(2))
	}
}

func TestCrossesRoundLoopsAndBranches(t *testing.T) {
	// What is read at the loop's beginning is needed behind its end.
	holdSets(t, given(2, 2, at(1), kept(0, 1), called(0, 0), jumpIf(0, 1), ret(-1)), cells(1), cells(0, 1))
	holdSets(t, given(2, 2, at(1), set(1, 1), kept(0, 1), called(0, 0), jumpIf(0, 1), ret(-1)), 0, cells(0, 1))
	holdSets(t, over(2, at(1), called(0, 0), jump(1)), 0, cells(0))
	holdSets(t, over(2, at(1), kept(0, 0), called(0, 0), jump(1)), 0, cells(0))
	holdSets(t, over(2, at(1), kept(0, 0), called(1, 0), jump(1)), cells(0), cells(0, 1))
	// One arm calls, the other one reads.
	holdSets(t, given(3, 3, jumpIf(0, 1), called(-1, 0), ret(1), at(1), ret(2)), cells(1), cells(0, 1, 2))
	// Both arms come to where it is read.
	holdSets(t, given(3, 3, jumpIf(0, 1), called(-1, 0), at(1), ret(2)), cells(2), cells(0, 1, 2))
}

func TestCrossesOfAllCells(t *testing.T) {
	for k := range 60 {
		holdSets(t, over(60, called(-1, 0), ret(k)), cells(k), cells(k))
		holdSets(t, over(60, called(k, 0), ret(k)), 0, cells(k))
	}
	c := over(60, called(-1, 0))
	for k := range 60 {
		c.Body = append(c.Body, kept(0, k))
	}
	holdSets(t, c, all(60), all(60))
	c.Body[0] = called(59, 0)
	holdSets(t, c, all(59), all(60))
	c.Body[0] = called(0, 0)
	holdSets(t, c, all(60)-1, all(60))
}

// P17.1: Named

// TestNamedOfEachField: of each kind, whether the field is a cell or not.
func TestNamedOfEachField(t *testing.T) {
	areCells := map[int]string{
		api.IrConst: "D", api.IrMove: "DA", api.IrOp: "DAB", api.IrSelect: "DABC", api.IrLoad: "DA", api.IrStore: "AB", api.IrGet: "D", api.IrSet: "A",
		api.IrIf: "A", api.IrUnless: "A", api.IrArg: "A", api.IrCall: "D", api.IrReturn: "A",
	}
	for kind := -1; kind <= 18; kind++ {
		for shift := range 3 {
			x := api.Ir{Op: kind, Dst: 1 + shift, A: 10 + shift, B: 20 + shift, C: 30 + shift, N: 5, M: 40 + shift}
			named := 0
			for i, name := range "DABC" {
				if strings.ContainsRune(areCells[kind], name) {
					named |= cells([]int{x.Dst, x.A, x.B, x.C}[i])
				}
			}
			holdSets(t, over(60, at(5), x), 0, named)
			holdSets(t, over(60, kept(0, 50), ret(-1), x, at(5)), 0, named|cells(50))
		}
	}
}

func TestNamedOfCellsBelowNought(t *testing.T) {
	for _, n := range []int{-1, -2, math.MinInt, math.MinInt32, -1 << 32} {
		holdSets(t, over(60, ret(n)), 0, 0)
	}
	holdSets(t, over(60, called(-1, 0)), 0, 0)
	holdSets(t, over(60, called(-1, 0), ret(-1)), 0, 0)
}

func TestNamedOfParameters(t *testing.T) {
	for _, many := range []int{0, 1, 2, 4, 59, 60} {
		holdSets(t, given(60, many), 0, all(many))
		holdSets(t, given(60, many, set(0, 1), kept(0, 59)), 0, all(many)|cells(0, 59))
	}
}

// P17.2

func TestPlacesOfTheExamples(t *testing.T) {
	holdPlaces(t, over(2, set(0, 0), set(1, 0), op(0, 0, api.I32Add, 1), ret(0)), 0, 1)
	holdPlaces(t, over(1, set(0, 0), called(-1, 0), ret(0)), 6)
}

func TestPlacesOfCellsThatAreNotNamed(t *testing.T) {
	holdPlaces(t, over(4), -1, -1, -1, -1)
	holdPlaces(t, over(4, ret(-1)), -1, -1, -1, -1)
	holdPlaces(t, over(4, set(1, 0), set(3, 0), sum(1, 1, 3), ret(1)), -1, 0, -1, 1)
	holdPlaces(t, given(4, 1, ret(3)), 0, -1, -1, 0)
	holdPlaces(t, over(4, called(-1, 0), ret(2)), -1, -1, 6, -1)
	// One that is written alone, or read alone, or where nothing comes by, has a place.
	holdPlaces(t, over(3, set(0, 1), ret(-1), kept(0, 2)), 0, -1, 0)
}

func TestPlacesOfCellsThatDoNotClash(t *testing.T) {
	// Each is needed till the next one is there.
	holdPlaces(t, over(4, set(0, 5), move(1, 0), move(2, 1), move(3, 2), ret(3)), 0, 0, 0, 0)
	holdPlaces(t, over(4, set(3, 5), move(2, 3), move(1, 2), move(0, 1), ret(0)), 0, 0, 0, 0)
	// Each of the two arms has its own.
	holdPlaces(t, given(3, 1, jumpUnless(0, 2), set(1, 5), ret(1), at(2), set(2, 6), ret(2)), 0, 0, 0)
}

// TestPlacesAreTheLeast: a place that one leaves is taken by a later one, though others stand behind it.
func TestPlacesAreTheLeast(t *testing.T) {
	// The cell 0 is needed till the end, 1 at first, 3 from then on.
	holdPlaces(t, over(4, set(0, 1), set(1, 1), set(2, 1), kept(0, 1), set(3, 1), kept(0, 0), kept(0, 2), ret(3)), 0, 1, 2, 1)
	// The cell 1 clashes with 2 alone, and 3 with 0 and 2.
	holdPlaces(t, over(4, set(2, 1), set(1, 1), sum(2, 1, 2), set(0, 1), set(3, 1), store(0, 3, 4, 0), ret(2)), 0, 0, 1, 2)
	// Those with greater numbers come later, whatever stands first in the code.
	holdPlaces(t, over(3, set(2, 1), set(1, 1), set(0, 1), kept(0, 2), kept(0, 1), ret(0)), 0, 1, 2)
	// A cell that a later one clashes with does not count for the earlier one.
	holdPlaces(t, over(3, set(1, 1), set(2, 1), kept(0, 1), kept(0, 2), set(0, 1), ret(0)), 0, 0, 1)
}

// inOneLine has many cells written one behind the other, then read.
func inOneLine(many int, between ...api.Ir) api.Code {
	c := over(many)
	for k := range many {
		c.Body = append(c.Body, set(k, k))
	}
	c.Body = append(c.Body, between...)
	for k := range many {
		c.Body = append(c.Body, kept(0, k))
	}
	return c
}

// TestPlacesBehindTheRegisters: 6 comes behind 5.
func TestPlacesBehindTheRegisters(t *testing.T) {
	for _, many := range []int{1, 5, 6, 7, 8, 59, 60} {
		holdPlaces(t, inOneLine(many), run(0, many)...)
		holdPlaces(t, inOneLine(many, called(-1, 0)), run(6, 6+many)...)
		holdSets(t, inOneLine(many, called(-1, 0)), all(many), all(many))
	}
}

// TestPlacesOfSomeThatCross: they share the slots with those for which there is no register any more.
func TestPlacesOfSomeThatCross(t *testing.T) {
	// The cell 0 crosses, the others are written behind the call: six have registers, and the seventh 7, as 6 is taken.
	c := over(8, set(0, 1), called(-1, 0))
	for k := 1; k < 8; k++ {
		c.Body = append(c.Body, set(k, 1))
	}
	for k := range 8 {
		c.Body = append(c.Body, kept(0, k))
	}
	holdPlaces(t, c, 6, 0, 1, 2, 3, 4, 5, 7)
	// The other way round: the cell that crosses comes behind those in registers, and behind the one in a slot.
	c = over(8)
	for k := range 7 {
		c.Body = append(c.Body, set(k, 1))
	}
	c.Body = append(c.Body, set(7, 1))
	for k := range 7 {
		c.Body = append(c.Body, kept(0, k))
	}
	c.Body = append(c.Body, called(-1, 0), ret(7))
	holdPlaces(t, c, 0, 1, 2, 3, 4, 5, 6, 7)
	// It needs its slot at the call alone: with the one in a slot it does not clash.
	c = over(8)
	for k := range 7 {
		c.Body = append(c.Body, set(k, 1))
	}
	for k := range 7 {
		c.Body = append(c.Body, kept(0, k))
	}
	c.Body = append(c.Body, set(7, 1), called(-1, 0), ret(7))
	holdPlaces(t, c, 0, 1, 2, 3, 4, 5, 6, 6)
	// What one call brings has a register, if no other call comes ahead of its being read.
	holdPlaces(t, over(2, called(0, 0), called(1, 0), sum(0, 0, 1), ret(0)), 6, 0)
	holdPlaces(t, over(2, called(0, 0), kept(0, 0), called(1, 0), ret(1)), 0, 0)
	// A cell that crosses one call is in its slot throughout.
	holdPlaces(t, over(2, set(0, 1), called(-1, 0), kept(0, 0), set(0, 2), set(1, 3), sum(0, 0, 1), ret(0)), 6, 0)
	// Two that cross different calls share a slot.
	holdPlaces(t, over(2, set(0, 1), called(-1, 0), kept(0, 0), set(1, 2), called(-1, 0), ret(1)), 6, 6)
}

func TestPlacesOfParameters(t *testing.T) {
	// None is needed from the beginning on: they may be handed in over one another.
	holdPlaces(t, given(4, 4, ret(-1)), 0, 0, 0, 0)
	// One is: the others are not to be put where it is.
	holdPlaces(t, given(4, 4, ret(0)), 0, 1, 1, 1)
	holdPlaces(t, given(4, 4, ret(1)), 0, 1, 0, 0)
	holdPlaces(t, given(4, 4, ret(3)), 0, 0, 0, 1)
	// All are.
	holdPlaces(t, given(4, 4, store(0, 1, 4, 0), store(2, 3, 4, 0), ret(-1)), 0, 1, 2, 3)
	// Behind the parameters there is none that is put anywhere ahead of the first instruction.
	holdPlaces(t, given(4, 2, store(0, 1, 4, 0), set(2, 1), set(3, 1), sum(2, 2, 3), ret(2)), 0, 1, 0, 1)
	// They cross calls, too.
	holdPlaces(t, given(3, 3, called(-1, 0), sum(0, 0, 2), ret(0)), 6, 0, 7)
	holdPlaces(t, given(60, 60, ret(59)), append(slices.Repeat([]int{0}, 59), 1)...)
}

func TestPlacesRoundALoop(t *testing.T) {
	// The cell 2 is reckoned up, 0 counts down, and 1 is needed within alone.
	c := given(3, 1, set(2, 0), at(1), sum(2, 2, 0), set(1, 1), op(0, 0, api.I64Sub, 1), jumpIf(0, 1), ret(2))
	holdPlaces(t, c, 0, 1, 2)
	// If a call is within, all that goes round has a slot.
	c.Body = slices.Insert(c.Body, 3, arg(0, 2), called(-1, 0))
	holdPlaces(t, c, 6, 0, 7)
}

// lowered is the code of a function that takes I64 and brings it, too, with one more local of it.
func lowered(t *testing.T, body ...api.Instr) api.Code {
	t.Helper()
	m := api.Module{
		Sigs:  []api.Sig{{Params: []int{api.I64}, Results: []int{api.I64}}},
		Funcs: []api.Func{{Locals: []int{api.I64}, Body: body}},
	}
	c, e := rir.Lower(m, 0)
	if e != api.OK {
		t.Fatalf("no code of %v: %d", body, e)
	}
	return c
}

// TestPlacesOfLoweredFunctions: the cell 0 is the parameter, 1 the local, from 2 on there is the stack.
func TestPlacesOfLoweredFunctions(t *testing.T) {
	in := func(op, n int) api.Instr { return api.Instr{Op: op, N: n} }
	get0, get1, end := in(api.LocalGet, 0), in(api.LocalGet, 1), in(api.End, 0)
	// n, n - 1 and so on are summed up.
	c := lowered(t, in(api.Loop, 0), get1, get0, in(api.I64Add, 0), in(api.LocalSet, 1),
		get0, in(api.I64Const, 1), in(api.I64Sub, 0), in(api.LocalTee, 0), in(api.I64Eqz, 0), in(api.I32Eqz, 0), in(api.BrIf, 0), end, get1, end)
	holdSets(t, c, 0, cells(0, 1, 2, 3))
	holdPlaces(t, c, 0, 1, 2, 3)
	// If it is not given 0, it calls itself, and needs behind that what it was given.
	c = lowered(t, get0, in(api.I64Eqz, 0), api.Instr{Op: api.If, M: 1 + api.I64}, in(api.I64Const, 0), in(api.Else, 0),
		get0, in(api.I64Const, 1), in(api.I64Sub, 0), in(api.Call, 0), get0, in(api.I64Add, 0), end, end)
	holdSets(t, c, cells(0), cells(0, 1, 2, 3))
	holdPlaces(t, c, 6, 0, 0, 1)
	// What was reckoned ahead of the second call waits on the stack.
	c = lowered(t, get0, in(api.Call, 0), get0, in(api.Call, 0), in(api.I64Add, 0), end)
	holdSets(t, c, cells(0, 2), cells(0, 1, 2, 3))
	holdPlaces(t, c, 6, 0, 7, 0)
}

// P17.3

func TestSlots(t *testing.T) {
	for _, x := range []struct {
		want int
		l    []int
	}{
		{0, nil}, {0, []int{}}, {0, []int{-1}}, {0, []int{0}}, {0, []int{5}}, {0, []int{-1, 0, 5, 4, 5}}, {0, run(-1, 6)},
		{1, []int{6}}, {1, []int{6, 6}}, {2, []int{7}}, {60, []int{65}}, {60, run(6, 66)}, {2, []int{0, 6, 0, 7, -1}},
		// The greatest one counts, wherever it stands, and whether those below it are there or not.
		{3, []int{8, 0, 6}}, {3, []int{0, 8, 6}}, {3, []int{6, 0, 8}}, {5, []int{-1, 10, -1}},
		// Any numbers.
		{0, []int{math.MinInt}}, {0, []int{math.MinInt, math.MinInt + 5, -2}}, {1, []int{math.MinInt, 6}},
		{math.MaxInt - 5, []int{math.MaxInt}}, {math.MaxInt - 5, []int{math.MinInt, math.MaxInt, 7}}, {math.MaxInt - 6, []int{math.MaxInt - 1}}, {1<<32 - 5, []int{1 << 32}},
	} {
		if n := alloc.Slots(x.l); n != x.want {
			t.Errorf("%v: %d slots; want %d", x.l, n, x.want)
		}
		if n := reckonedSlots(x.l); n != x.want {
			t.Errorf("%v: reckoned: %d slots; want %d", x.l, n, x.want)
		}
	}
}

func TestSlotsOfPlaces(t *testing.T) {
	for _, many := range []int{1, 5, 6, 7, 60} {
		l, _ := alloc.Alloc(inOneLine(many))
		if n := alloc.Slots(l); n != max(0, many-6) {
			t.Errorf("of %d in one line: %d slots", many, n)
		}
		l, _ = alloc.Alloc(inOneLine(many, called(-1, 0)))
		if n := alloc.Slots(l); n != many {
			t.Errorf("of %d that cross: %d slots", many, n)
		}
	}
}

// P3, P4

func TestWhatIsHandedInStays(t *testing.T) {
	body := slices.Grow(list(jump(1), set(1, 1), at(1), called(-1, 0), jumpIf(0, 1), ret(1)), 5)
	whole := body[:cap(body)]
	before := slices.Clone(whole)
	c := given(2, 1, body...)
	places := slices.Grow([]int{3, 9, 7}, 4)
	allPlaces := places[:cap(places)]
	placesBefore := slices.Clone(allPlaces)
	for range 2 {
		alloc.Crosses(c)
		alloc.Named(c)
		alloc.Alloc(c)
		alloc.Slots(places)
	}
	if !slices.Equal(whole, before) || c.Cells != 2 || c.Params != 1 || c.Labels != 0 {
		t.Errorf("%v; was %v", whole, before)
	}
	if !slices.Equal(allPlaces, placesBefore) {
		t.Errorf("%v; was %v", allPlaces, placesBefore)
	}
}

// TestAnswersAreNew: what is written into one, and behind it, changes no other one.
func TestAnswersAreNew(t *testing.T) {
	c := given(3, 2, at(1), called(1, 0), jumpIf(0, 1), ret(1))
	want := []int{6, 0, -1}
	first, _ := alloc.Alloc(c)
	second, _ := alloc.Alloc(c)
	for _, l := range [][]int{first, second} {
		if !slices.Equal(l, want) {
			t.Errorf("%v; want %v", l, want)
		}
		whole := l[:cap(l)]
		for i := range whole {
			whole[i] = 77
		}
		if third, _ := alloc.Alloc(c); !slices.Equal(third, want) {
			t.Errorf("%v; want %v", third, want)
		}
	}
	if whole := first[:cap(first)]; slices.ContainsFunc(whole, func(n int) bool { return n != 77 }) {
		t.Errorf("an answer is written into: %v", whole)
	}
}
