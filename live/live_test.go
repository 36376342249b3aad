package live_test

import (
	"math"
	"slices"
	"strings"
	"testing"

	"oubliette/api"
	"oubliette/live"
	"oubliette/rir"
)

// What code over cells is made of.
func set(dst, n int) api.Ir          { return api.Ir{Op: api.IrConst, Dst: dst, N: n} }
func move(dst, a int) api.Ir         { return api.Ir{Op: api.IrMove, Dst: dst, A: a} }
func op(dst, a, n, b int) api.Ir     { return api.Ir{Op: api.IrOp, Dst: dst, A: a, B: b, N: n} }
func sum(dst, a, b int) api.Ir       { return op(dst, a, api.I64Add, b) }
func chosen(dst, a, b, c int) api.Ir { return api.Ir{Op: api.IrSelect, Dst: dst, A: a, B: b, C: c} }
func load(dst, a, c, n int) api.Ir   { return api.Ir{Op: api.IrLoad, Dst: dst, A: a, C: c, N: n} }
func store(a, b, c, n int) api.Ir    { return api.Ir{Op: api.IrStore, A: a, B: b, C: c, N: n} }
func got(dst, n int) api.Ir          { return api.Ir{Op: api.IrGet, Dst: dst, N: n} }
func kept(n, a int) api.Ir           { return api.Ir{Op: api.IrSet, A: a, N: n} }
func at(n int) api.Ir                { return api.Ir{Op: api.IrLabel, N: n} }
func jump(n int) api.Ir              { return api.Ir{Op: api.IrJump, N: n} }
func jumpIf(a, n int) api.Ir         { return api.Ir{Op: api.IrIf, A: a, N: n} }
func jumpUnless(a, n int) api.Ir     { return api.Ir{Op: api.IrUnless, A: a, N: n} }
func arg(n, a int) api.Ir            { return api.Ir{Op: api.IrArg, A: a, N: n} }
func called(dst, n int) api.Ir       { return api.Ir{Op: api.IrCall, Dst: dst, N: n} }
func ret(a int) api.Ir               { return api.Ir{Op: api.IrReturn, A: a} }
func stop(n int) api.Ir              { return api.Ir{Op: api.IrStop, N: n} }

func list(l ...api.Ir) []api.Ir { return l }

// over is a code of so many cells, none of them a parameter.
func over(cells int, l ...api.Ir) api.Code { return api.Code{Cells: cells, Body: l} }

// given is one whose first cells are parameters.
func given(cells, params int, l ...api.Ir) api.Code {
	return api.Code{Cells: cells, Params: params, Body: l}
}

// cells is the set of these.
func cells(l ...int) (set int) {
	for _, k := range l {
		set |= 1 << k
	}
	return set
}

// outsides are numbers far from any cell, place or label.
func outsides() []int {
	return []int{math.MinInt, math.MinInt + 1, math.MinInt32, -1 << 32, -1, 1 << 31, 1 << 32, 1<<32 + 1, math.MaxInt - 1, math.MaxInt}
}

// holdFits holds whether a code fits, and that the others ask it, too.
func holdFits(t *testing.T, c api.Code, want bool) {
	t.Helper()
	if live.Fits(c) != want {
		t.Errorf("%+v: fits: %v; want %v", c, !want, want)
	}
	if reckonedFits(c) != want {
		t.Errorf("%+v: reckoned: fits: %v; want %v", c, !want, want)
	}
	if want {
		return
	}
	if l, e := live.After(c); len(l) != 0 || e != api.ErrArg {
		t.Errorf("%+v: After: %v, %d", c, l, e)
	}
	if l, e := live.Ahead(c); len(l) != 0 || e != api.ErrArg {
		t.Errorf("%+v: Ahead: %v, %d", c, l, e)
	}
	if clash, e := live.Clash(c, 0, 1); clash || e != api.ErrArg {
		t.Errorf("%+v: Clash: %v, %d", c, clash, e)
	}
}

// P16.1

func TestFitsOfHowManyCells(t *testing.T) {
	for _, n := range []int{0, 1, 2, 5, 59, 60} {
		holdFits(t, over(n), true)
		holdFits(t, over(n, ret(-1)), true)
	}
	for _, n := range append(outsides(), 61, 62, 63, 64, 65, 1000) {
		holdFits(t, over(n), false)
		holdFits(t, over(n, ret(-1)), false)
	}
}

func TestFitsOfHowManyParameters(t *testing.T) {
	for _, many := range []int{0, 1, 5, 60} {
		for n := range many + 1 {
			holdFits(t, given(many, n, ret(-1)), true)
		}
		for _, n := range append(outsides(), many+1, many+2, 61) {
			holdFits(t, given(many, n, ret(-1)), false)
		}
	}
	holdFits(t, given(61, 61), false)
	holdFits(t, given(-1, -1), false)
}

func TestFitsOfHowManyInstructions(t *testing.T) {
	for _, x := range []api.Ir{set(0, 1), at(1), jump(7), ret(0), {}} {
		for many, want := range map[int]bool{1: true, 999: true, 1000: true, 1001: false, 1002: false, 5000: false} {
			body := slices.Repeat(list(x), many)
			body[0] = at(7)
			holdFits(t, over(1, body...), want)
		}
	}
}

// TestFitsOfEachField: of each kind, whether the field is a cell or not, at each number of interest.
func TestFitsOfEachField(t *testing.T) {
	const many = 3
	areCells := map[int]string{
		api.IrConst: "D", api.IrMove: "DA", api.IrOp: "DAB", api.IrSelect: "DABC", api.IrLoad: "DA", api.IrStore: "AB", api.IrGet: "D", api.IrSet: "A",
		api.IrIf: "A", api.IrUnless: "A", api.IrArg: "A", api.IrCall: "D", api.IrReturn: "A",
	}
	for kind := -1; kind <= 18; kind++ {
		for _, n := range append(outsides(), -2, 0, 1, 2, 3, 4, 59, 60) {
			for i, name := range "DABCM" {
				x := api.Ir{Op: kind, N: 5}
				*[]*int{&x.Dst, &x.A, &x.B, &x.C, &x.M}[i] = n
				mayBeNone := kind == api.IrCall && n == -1 || kind == api.IrReturn && n < 0
				wants := !strings.ContainsRune(areCells[kind], name) || n >= 0 && n < many || mayBeNone
				holdFits(t, over(many, at(5), x), wants)
				holdFits(t, over(many, at(5), ret(0), x, ret(0)), wants)
			}
		}
	}
}

// TestFitsOfNoCells: there is none that could be named.
func TestFitsOfNoCells(t *testing.T) {
	for _, x := range list(set(0, 1), move(0, 0), sum(0, 0, 0), chosen(0, 0, 0, 0), load(0, 0, 4, 0), store(0, 0, 4, 0), got(0, 0), kept(0, 0), jumpIf(0, 1), jumpUnless(0, 1), arg(0, 0), called(0, 0), ret(0)) {
		holdFits(t, over(0, at(1), x), false)
		holdFits(t, over(1, at(1), x), true)
	}
	holdFits(t, over(0, at(1), jump(1), called(-1, 0), stop(1), ret(-1)), true)
}

// TestFitsOfOtherKinds: they read, write and name nothing.
func TestFitsOfOtherKinds(t *testing.T) {
	for _, kind := range append(outsides(), -2, 0, 17, 18, 255) {
		holdFits(t, over(0, api.Ir{Op: kind, Dst: -1, A: -1, B: 99, C: math.MinInt, N: math.MaxInt, M: 5}), true)
	}
}

func TestFitsOfLabels(t *testing.T) {
	for _, n := range append(outsides(), -2, 0, 1, 2, 1000) {
		for _, x := range list(jump(n), jumpIf(0, n), jumpUnless(0, n)) {
			holdFits(t, over(1, x, ret(0)), false)
			holdFits(t, over(1, ret(0), x), false)
			holdFits(t, over(1, x, at(n^1), ret(0)), false)
			holdFits(t, over(1, x, at(n), at(n), ret(0)), false)
			holdFits(t, over(1, at(n), ret(0), x, at(n)), false)
			holdFits(t, over(1, at(n), at(n), at(n), ret(0), x), false)
			holdFits(t, over(1, at(n), at(n^1), jump(n^1), at(n^1), x), false)
			holdFits(t, over(1, x, at(n^1), at(n^1), at(n), ret(0)), true)
			holdFits(t, over(1, at(n), ret(0), x, x), true)
			holdFits(t, over(1, ret(0), x, at(n)), true)
		}
		// Where none goes to they may stand as often as one likes, and others may have their number.
		holdFits(t, over(1, at(n), at(n), at(n), ret(0)), true)
		holdFits(t, over(1, set(0, n), kept(n, 0), arg(n, 0), called(0, n), stop(n)), true)
	}
}

// TestFitsOfHowManyLabels: that is not asked.
func TestFitsOfHowManyLabels(t *testing.T) {
	for _, n := range append(outsides(), 0, 1, 2) {
		c := over(1, at(5), jump(5))
		c.Labels = n
		holdFits(t, c, true)
	}
}

// holdNext holds what may come behind a place, and that the reckoning says the same.
func holdNext(t *testing.T, c api.Code, place int, want ...int) {
	t.Helper()
	if l := live.Next(c, place); !slices.Equal(l, want) {
		t.Errorf("%v: behind %d: %v; want %v", c.Body, place, l, want)
	}
	if l := reckonedNext(c, place); !slices.Equal(l, want) {
		t.Errorf("%v: reckoned: behind %d: %v; want %v", c.Body, place, l, want)
	}
}

func TestNextOfWhatGoesOn(t *testing.T) {
	for _, x := range list(set(0, 1), move(0, 1), sum(0, 0, 1), chosen(0, 0, 1, 1), load(0, 0, 4, 1), store(0, 0, 4, 1), got(0, 1), kept(1, 0), at(1), arg(1, 0), called(0, 1), called(-1, 1), api.Ir{}, api.Ir{Op: 17, N: 1}, api.Ir{Op: -1, N: 1}) {
		// Their number is no label.
		c := over(2, at(1), x, x, at(1), x)
		holdNext(t, c, 0, 1)
		holdNext(t, c, 1, 2)
		holdNext(t, c, 2, 3)
		holdNext(t, c, 3, 4)
		holdNext(t, c, 4)
	}
}

func TestNextOfEnds(t *testing.T) {
	for _, x := range list(ret(0), ret(-1), stop(1), stop(0)) {
		c := over(1, at(1), at(0), x, x, at(2), x)
		holdNext(t, c, 2)
		holdNext(t, c, 3)
		holdNext(t, c, 5)
	}
}

func TestNextOfJumps(t *testing.T) {
	for _, n := range append(outsides(), -2, 0, 1, 2, 1000) {
		c := over(1, jump(n), at(n^1), at(n), ret(0))
		holdNext(t, c, 0, 2)
		c = over(1, at(n), set(0, 1), jump(n), ret(0))
		holdNext(t, c, 2, 0)
		c = over(1, set(0, 1), jump(n), at(n), ret(0))
		holdNext(t, c, 1, 2)
		c = over(1, ret(0), at(n), jump(n))
		holdNext(t, c, 2, 1)
		c = over(1, jump(n), ret(0))
		holdNext(t, c, 0)
		c = over(1, at(n^1), jump(n))
		holdNext(t, c, 1)
		// Of several labels it is the first one, from wherever.
		c = over(1, jump(n), at(n^1), at(n), jump(n), at(n), jump(n), at(n))
		holdNext(t, c, 0, 2)
		holdNext(t, c, 3, 2)
		holdNext(t, c, 5, 2)
	}
}

func TestNextOfBranches(t *testing.T) {
	for _, n := range append(outsides(), -2, 0, 1, 2, 1000) {
		for _, x := range list(jumpIf(0, n), jumpUnless(0, n)) {
			c := over(1, x, at(n^1), at(n), ret(0))
			holdNext(t, c, 0, 1, 2)
			c = over(1, at(n), set(0, 1), x, ret(0))
			holdNext(t, c, 2, 0, 3)
			// Once, where both are one place.
			c = over(1, set(0, 1), x, at(n), ret(0))
			holdNext(t, c, 1, 2)
			// Behind the last one there is none.
			c = over(1, ret(0), at(n), x)
			holdNext(t, c, 2, 1)
			c = over(1, x, ret(0))
			holdNext(t, c, 0, 1)
			c = over(1, ret(0), x)
			holdNext(t, c, 1)
			c = over(1, x, at(n^1), at(n), x, at(n), x, at(n))
			holdNext(t, c, 0, 1, 2)
			holdNext(t, c, 3, 2, 4)
			holdNext(t, c, 5, 2, 6)
		}
	}
}

func TestNextOfPlacesThatThereAreNot(t *testing.T) {
	for _, body := range [][]api.Ir{nil, {}, {set(0, 1)}, {at(1), jump(1)}, {at(1), jumpIf(0, 1), ret(0)}} {
		c := over(1, body...)
		for _, place := range append(outsides(), -2, len(body), len(body)+1, 1000) {
			holdNext(t, c, place)
		}
	}
}

// TestNextOfCodesThatDoNotFit: they are asked, too.
func TestNextOfCodesThatDoNotFit(t *testing.T) {
	for _, c := range []api.Code{given(-1, 5, set(9, 1), jump(1), at(1)), given(61, 62, move(-1, 99), jump(1), at(1)), over(0, ret(5), jump(1), at(1), at(1))} {
		holdFits(t, c, false)
		holdNext(t, c, 1, 2)
	}
	long := over(1, slices.Concat(list(jump(1)), slices.Repeat(list(set(0, 1)), 5000), list(at(1), ret(0)))...)
	holdFits(t, long, false)
	holdNext(t, long, 0, 5001)
	holdNext(t, long, 5000, 5001)
}

// P16.2

// holdLive holds what is live behind each instruction, and ahead of it, and that the reckoning says the same.
func holdLive(t *testing.T, c api.Code, after, ahead []int) {
	t.Helper()
	holdFits(t, c, true)
	l, e := live.After(c)
	if !slices.Equal(l, after) || e != api.OK {
		t.Errorf("%v: After: %b, %d; want %b", c.Body, l, e, after)
	}
	l, e = live.Ahead(c)
	if !slices.Equal(l, ahead) || e != api.OK {
		t.Errorf("%v: Ahead: %b, %d; want %b", c.Body, l, e, ahead)
	}
	if r := reckoned(c); !slices.Equal(r.after, after) || !slices.Equal(r.ahead, ahead) {
		t.Errorf("%v: reckoned: %b, %b; want %b, %b", c.Body, r.after, r.ahead, after, ahead)
	}
}

// sets is a list of sets, each written as the digits of its cells.
func sets(l ...string) (sets []int) {
	for _, s := range l {
		set := 0
		for _, k := range s {
			set |= cells(int(k - '0'))
		}
		sets = append(sets, set)
	}
	return sets
}

func TestLiveOfTheExample(t *testing.T) {
	holdLive(t, over(2, set(0, 5), set(1, 6), sum(0, 0, 1), ret(0)), sets("0", "01", "0", ""), sets("", "0", "01", "0"))
}

func TestLiveOfNothing(t *testing.T) {
	for _, c := range []api.Code{over(0), over(60), given(4, 4), {Body: list(), Labels: 5}} {
		holdLive(t, c, nil, nil)
	}
}

// TestLiveOfEachKind: all cells but what it writes are needed behind it.
func TestLiveOfEachKind(t *testing.T) {
	const all = "012345"
	read := store(0, 1, 4, 0)
	more := list(read, chosen(0, 2, 3, 4), kept(0, 5), ret(-1))
	for _, x := range []struct {
		x     api.Ir
		ahead string
	}{
		{set(2, 0), "01345"}, {move(2, 0), "01345"}, {move(2, 2), all}, {sum(2, 0, 1), "01345"}, {sum(2, 2, 1), all},
		{chosen(2, 0, 1, 3), "01345"}, {chosen(2, 0, 1, 2), all}, {load(2, 0, 4, 3), "01345"}, {load(2, 2, 4, 0), all},
		{got(2, 2), "01345"}, {called(2, 2), "01345"}, {called(-1, 2), all}, {store(0, 1, 4, 2), all}, {kept(2, 0), all},
		{at(2), all}, {arg(2, 0), all}, {api.Ir{Dst: 2}, all}, {api.Ir{Op: 17, Dst: 2}, all},
		{api.Ir{Op: api.IrStore, Dst: 2}, all}, {api.Ir{Op: api.IrSet, Dst: 2}, all}, {api.Ir{Op: api.IrArg, Dst: 2}, all},
	} {
		c := over(6, append(list(x.x), more...)...)
		holdLive(t, c, sets(all, "2345", "5", "", ""), sets(x.ahead, all, "2345", "5", ""))
	}
}

// TestLiveOfWhatEachKindReads: nothing is needed behind it.
func TestLiveOfWhatEachKindReads(t *testing.T) {
	for _, x := range []struct {
		x     api.Ir
		ahead string
	}{
		{set(2, 3), ""}, {move(2, 3), "3"}, {move(3, 3), "3"}, {sum(2, 3, 4), "34"}, {sum(3, 3, 3), "3"}, {op(2, 3, api.I32Eqz, 3), "3"},
		{chosen(2, 3, 4, 5), "345"}, {chosen(2, 5, 4, 3), "345"}, {chosen(2, 4, 3, 4), "34"}, {load(2, 3, 4, 5), "3"}, {load(2, 3, 8, 5), "3"},
		{store(2, 3, 4, 5), "23"}, {store(3, 3, 4, 5), "3"}, {got(2, 3), ""}, {kept(2, 3), "3"}, {at(2), ""}, {jump(9), ""},
		{jumpIf(3, 9), "3"}, {jumpUnless(3, 9), "3"}, {arg(2, 3), "3"}, {called(2, 3), ""}, {called(-1, 3), ""},
		{ret(3), "3"}, {ret(0), "0"}, {ret(-1), ""}, {stop(3), ""}, {api.Ir{Dst: 1, A: 2, B: 3, C: 4}, ""}, {api.Ir{Op: 17, Dst: 1, A: 2, B: 3, C: 4}, ""},
		{api.Ir{Op: api.IrConst, A: 3, B: 4, C: 5}, ""}, {api.Ir{Op: api.IrMove, A: 3, B: 4, C: 5}, "3"}, {api.Ir{Op: api.IrGet, A: 3, B: 4, C: 5}, ""},
		{api.Ir{Op: api.IrCall, A: 3, B: 4, C: 5}, ""}, {api.Ir{Op: api.IrReturn, Dst: 2, A: 3, B: 4, C: 5}, "3"}, {api.Ir{Op: api.IrStop, A: 3, B: 4, C: 5}, ""},
	} {
		holdLive(t, over(6, x.x, at(9)), sets("", ""), sets(x.ahead, ""))
	}
}

func TestLiveOfEnds(t *testing.T) {
	// Behind an end nothing is needed, whatever stands there; where nothing comes by, it is told all the same.
	holdLive(t, over(3, ret(0), ret(1)), sets("", ""), sets("0", "1"))
	holdLive(t, over(3, stop(1), set(2, 0), sum(0, 1, 2), ret(0)), sets("", "12", "0", ""), sets("", "1", "12", "0"))
	// Behind the last one, too.
	holdLive(t, over(3, set(0, 1), move(1, 0)), sets("0", ""), sets("", "0"))
	holdLive(t, over(3, at(1), jumpIf(2, 1)), sets("2", "2"), sets("2", "2"))
	// What is written and not read is never needed.
	holdLive(t, over(2, set(0, 1), set(0, 2), set(1, 3), ret(0)), sets("", "0", "0", ""), sets("", "", "0", "0"))
}

func TestLiveOfBranches(t *testing.T) {
	// One arm reads the cell 1, the other one the cell 2.
	holdLive(t, given(3, 3, jumpUnless(0, 2), move(0, 1), jump(1), at(2), move(0, 2), at(1), ret(0)),
		sets("12", "0", "0", "2", "0", "0", ""), sets("012", "1", "0", "2", "2", "0", "0"))
	// One arm writes the cell 1 ahead of its being read, the other one does not.
	holdLive(t, given(2, 1, jumpIf(0, 1), set(1, 5), at(1), ret(1)), sets("1", "1", "1", ""), sets("01", "", "1", "1"))
	// Both arms write it.
	holdLive(t, given(2, 1, jumpIf(0, 2), set(1, 5), jump(1), at(2), set(1, 6), at(1), ret(1)),
		sets("", "1", "1", "", "1", "1", ""), sets("0", "", "1", "", "", "1", "1"))
	// One arm does not come back.
	holdLive(t, given(2, 1, jumpIf(0, 1), stop(1), at(1), ret(1)), sets("1", "", "1", ""), sets("01", "", "1", "1"))
}

func TestLiveRoundLoops(t *testing.T) {
	// What is read ahead in the loop is needed behind, as it goes round.
	holdLive(t, given(2, 2, at(1), move(0, 1), jumpIf(0, 1), ret(-1)), sets("1", "01", "1", ""), sets("1", "1", "01", ""))
	// A loop that none leaves and that reads nothing needs nothing: the least sets.
	holdLive(t, over(2, set(0, 1), at(1), set(1, 2), jump(1), ret(0)), sets("", "", "", "", ""), sets("", "", "", "", "0"))
	// One that reads what it wrote itself, and one that did not.
	holdLive(t, over(2, at(1), set(0, 1), kept(0, 0), jump(1)), sets("", "0", "", ""), sets("", "", "0", ""))
	holdLive(t, over(2, at(1), kept(0, 0), set(0, 1), jump(1)), sets("0", "", "0", "0"), sets("0", "0", "", "0"))
	// Two cells that hand on to each other, and a third one that is given to them.
	holdLive(t, over(3, at(1), move(0, 1), move(1, 2), move(2, 0), jump(1)),
		sets("12", "02", "01", "12", "12"), sets("12", "12", "02", "01", "12"))
	// A loop within a loop: the cell 0 is needed by the outer one alone.
	holdLive(t, given(3, 3, at(1), at(2), sum(1, 1, 2), jumpIf(1, 2), jumpIf(0, 1), ret(-1)),
		sets("012", "012", "012", "012", "012", ""), sets("012", "012", "012", "012", "012", ""))
	// Jumps that go to and fro.
	holdLive(t, over(1, jump(2), at(1), jump(3), at(2), jump(1), at(3), ret(0)), sets("0", "0", "0", "0", "0", "0", ""), sets("0", "0", "0", "0", "0", "0", "0"))
}

// lowered is the code of a function that takes I64 and brings it, too, with one more local of it.
func lowered(t *testing.T, body ...api.Instr) api.Code {
	t.Helper()
	m := api.Module{
		Sigs:  []api.Sig{{Params: []int{api.I64}, Results: []int{api.I64}}},
		Funcs: []api.Func{{Locals: []int{api.I64}, Body: body}},
	}
	c, e := rir.Lower(m, 0)
	if e != api.OK {
		t.Fatalf("no code of %v: %d", body, e)
	}
	return c
}

// TestLiveOfLoweredFunctions: the cell 0 is the parameter, 1 the local, from 2 on there is the stack.
func TestLiveOfLoweredFunctions(t *testing.T) {
	in := func(op, n int) api.Instr { return api.Instr{Op: op, N: n} }
	get0, get1, end := in(api.LocalGet, 0), in(api.LocalGet, 1), in(api.End, 0)
	// n, n - 1 and so on are summed up.
	c := lowered(t, in(api.Loop, 0), get1, get0, in(api.I64Add, 0), in(api.LocalSet, 1),
		get0, in(api.I64Const, 1), in(api.I64Sub, 0), in(api.LocalTee, 0), in(api.I64Eqz, 0), in(api.I32Eqz, 0), in(api.BrIf, 0), end, get1, end)
	holdLive(t, c,
		sets("01", "01", "02", "023", "02", "01", "12", "123", "12", "012", "012", "012", "01", "2", ""),
		sets("0", "01", "01", "02", "023", "02", "01", "12", "123", "12", "012", "012", "012", "1", "2"))
	holdClash(t, c, 0, 1, true)
	holdClash(t, c, 0, 2, true)
	holdClash(t, c, 0, 3, true)
	holdClash(t, c, 1, 3, true)
	// If it is not given 0, it calls itself, and needs behind that what it was given.
	c = lowered(t, get0, in(api.I64Eqz, 0), api.Instr{Op: api.If, M: 1 + api.I64}, in(api.I64Const, 0), in(api.Else, 0),
		get0, in(api.I64Const, 1), in(api.I64Sub, 0), in(api.Call, 0), get0, in(api.I64Add, 0), end, end)
	holdLive(t, c,
		sets("0", "02", "02", "0", "2", "2", "0", "02", "023", "02", "0", "02", "23", "2", "2", ""),
		sets("0", "0", "02", "02", "", "2", "0", "0", "02", "023", "02", "0", "02", "23", "2", "2"))
	holdClash(t, c, 0, 1, true)
	holdClash(t, c, 0, 2, true)
	holdClash(t, c, 1, 2, false)
	holdClash(t, c, 2, 3, true)
}

// TestLiveOfAllCells: the greatest one, too.
func TestLiveOfAllCells(t *testing.T) {
	var c api.Code
	var ahead, after []int
	for k := range 60 {
		c.Body = append(c.Body, kept(0, k))
		ahead = append(ahead, 1<<60-1<<k)
		after = append(after, 1<<60-1<<(k+1))
	}
	c.Cells = 60
	holdLive(t, c, after, ahead)
	for k := range 60 {
		holdLive(t, over(60, set(k, 1), ret(k)), []int{1 << k, 0}, []int{0, 1 << k})
	}
}

// TestLiveOfALongWayBack: what the last instruction reads is needed all the way, that goes from the last label to the first one.
func TestLiveOfALongWayBack(t *testing.T) {
	const hops = 498
	body := list(jump(hops))
	for n := range hops {
		body = append(body, at(1+n), jump(n))
	}
	body = append(body, at(0), ret(0))
	all := slices.Repeat([]int{1}, len(body))
	after := slices.Clone(all)
	after[len(body)-1] = 0
	holdLive(t, over(1, body...), after, all)
	// The other way round it is told from the end on.
	body = list(jump(0))
	for n := range hops {
		body = append(body, at(n), jump(n+1))
	}
	body = append(body, at(hops), ret(0))
	holdLive(t, over(1, body...), after, all)
}

// P16.3

// holdClash holds whether two cells clash, whichever is named first, and that the reckoning says the same.
func holdClash(t *testing.T, c api.Code, a, b int, want bool) {
	t.Helper()
	for range 2 {
		if clash, e := live.Clash(c, a, b); clash != want || e != api.OK {
			t.Errorf("%+v: do %d and %d clash: %v, %d; want %v", c, a, b, clash, e, want)
		}
		a, b = b, a
	}
	if a != b && reckoned(c).clash(a, b) != want {
		t.Errorf("%+v: reckoned: do %d and %d clash: %v; want %v", c, a, b, !want, want)
	}
}

func TestClashOfTheExample(t *testing.T) {
	c := over(2, set(0, 5), set(1, 6), sum(0, 0, 1), ret(0))
	holdClash(t, c, 0, 1, true)
	holdClash(t, c, 0, 0, false)
	holdClash(t, c, 1, 1, false)
}

func TestClashByWriting(t *testing.T) {
	for _, x := range list(set(0, 1), move(0, 2), sum(0, 2, 2), chosen(0, 2, 2, 2), load(0, 2, 4, 0), got(0, 2), called(0, 2)) {
		// What is written need not be needed, if the other one is.
		holdClash(t, over(3, x, ret(1)), 0, 1, true)
		holdClash(t, over(3, x, ret(0)), 0, 1, false)
		holdClash(t, over(3, x, ret(2)), 0, 1, false)
		holdClash(t, over(3, x, sum(0, 0, 1), ret(0)), 0, 1, true)
		holdClash(t, over(3, x, jumpIf(2, 5), at(5), ret(1)), 0, 1, true)
		holdClash(t, over(3, x, ret(2), kept(0, 1)), 0, 1, false)
		// The other one is written in between.
		holdClash(t, over(3, x, set(1, 1), ret(1)), 0, 1, false)
		holdClash(t, over(3, x, set(1, 1), sum(0, 0, 1), ret(0)), 0, 1, true)
		// Where nothing comes by, too.
		holdClash(t, over(3, ret(-1), x, ret(1)), 0, 1, true)
	}
	// A cell that becomes another one is no exception, but where that is not needed any more.
	holdClash(t, over(2, move(0, 1), sum(0, 0, 1), ret(0)), 0, 1, true)
	holdClash(t, over(2, move(0, 1), ret(0)), 0, 1, false)
	// An instruction that writes nothing makes none clash.
	for _, x := range list(store(0, 1, 4, 0), kept(0, 1), arg(0, 1), called(-1, 0), at(5), api.Ir{Op: 17}) {
		holdClash(t, over(2, x, sum(0, 0, 1), ret(0)), 0, 1, false)
	}
}

func TestClashRoundALoop(t *testing.T) {
	c := given(3, 1, set(2, 0), at(1), sum(2, 2, 0), set(1, 1), op(0, 0, api.I64Sub, 1), jumpIf(0, 1), ret(2))
	holdClash(t, c, 0, 1, true)
	holdClash(t, c, 0, 2, true)
	holdClash(t, c, 1, 2, true)
	// The cell 0 is written at the end, where the cell 1 is needed as it goes round.
	holdClash(t, over(2, at(1), kept(0, 1), set(0, 1), jump(1)), 0, 1, true)
	holdClash(t, over(2, at(1), set(1, 1), kept(0, 1), set(0, 1), jump(1)), 0, 1, false)
}

func TestClashOfParameters(t *testing.T) {
	// Both are needed from the beginning on.
	both := list(store(0, 1, 4, 0), ret(-1))
	holdClash(t, given(4, 2, both...), 0, 1, true)
	holdClash(t, given(4, 4, both...), 0, 1, true)
	// One is: it clashes with the other parameters, that are handed in all the same, but with no other cell.
	one := list(ret(1))
	for _, b := range []int{0, 2} {
		holdClash(t, given(4, 3, one...), 1, b, true)
	}
	holdClash(t, given(4, 3, one...), 1, 3, false)
	holdClash(t, given(4, 3, one...), 0, 2, false)
	holdClash(t, given(4, 3, one...), 0, 3, false)
	holdClash(t, given(4, 3, one...), 2, 3, false)
	// A cell that is needed from the beginning on, but is no parameter, clashes with none for that.
	holdClash(t, given(2, 0, both...), 0, 1, false)
	holdClash(t, given(2, 1, both...), 0, 1, false)
	holdClash(t, given(2, 1, ret(1)), 0, 1, false)
	holdClash(t, given(2, 1, ret(0)), 0, 1, false)
	// The beginning alone counts.
	holdClash(t, given(2, 2, ret(-1), ret(0)), 0, 1, false)
	holdClash(t, given(2, 2, at(1), ret(0)), 0, 1, true)
	holdClash(t, given(2, 2, set(0, 1), ret(0)), 0, 1, false)
	holdClash(t, given(2, 2), 0, 1, false)
	holdClash(t, given(60, 60, ret(59)), 0, 59, true)
	holdClash(t, given(60, 60, ret(59)), 58, 59, true)
	holdClash(t, given(60, 59, ret(59)), 58, 59, false)
}

func TestClashOfACellWithItself(t *testing.T) {
	c := over(3, set(0, 1), sum(0, 0, 1), set(1, 5), sum(0, 0, 1), ret(0))
	for a := range 3 {
		holdClash(t, c, a, a, false)
	}
}

func TestClashOfCellsThatThereAreNot(t *testing.T) {
	for _, many := range []int{0, 1, 3, 60} {
		c := given(many, many, ret(-1))
		for _, a := range append(outsides(), -2, many, many+1, 64) {
			for _, b := range append(outsides(), -2, 0, 1, many-1, many, 64) {
				for range 2 {
					if clash, e := live.Clash(c, a, b); clash || e != api.ErrArg {
						t.Errorf("of %d cells: do %d and %d clash: %v, %d", many, a, b, clash, e)
					}
					a, b = b, a
				}
			}
			if clash, e := live.Clash(c, a, a); clash || e != api.ErrArg {
				t.Errorf("of %d cells: does %d clash with itself: %v, %d", many, a, clash, e)
			}
		}
	}
}

// P3, P4

func TestWhatIsHandedInStays(t *testing.T) {
	body := slices.Grow(list(jump(1), set(1, 1), at(1), jumpIf(0, 1), ret(1)), 5)
	whole := body[:cap(body)]
	before := slices.Clone(whole)
	c := given(2, 1, body...)
	for range 2 {
		live.Fits(c)
		for place := range body {
			live.Next(c, place)
		}
		live.After(c)
		live.Ahead(c)
		live.Clash(c, 0, 1)
	}
	if !slices.Equal(whole, before) || c.Cells != 2 || c.Params != 1 || c.Labels != 0 {
		t.Errorf("%v; was %v", whole, before)
	}
}

// TestAnswersAreNew: what is written into one, and behind it, changes no other one.
func TestAnswersAreNew(t *testing.T) {
	c := given(2, 1, at(1), jumpIf(0, 1), set(1, 1), ret(1))
	calls := map[string]func() []int{
		"After": func() []int { l, _ := live.After(c); return l },
		"Ahead": func() []int { l, _ := live.Ahead(c); return l },
		"Next":  func() []int { return live.Next(c, 1) },
	}
	for name, f := range calls {
		first := f()
		want := slices.Clone(first)
		second := f()
		for _, l := range [][]int{first, second} {
			whole := l[:cap(l)]
			for i := range whole {
				whole[i] = 77
			}
			if third := f(); !slices.Equal(third, want) {
				t.Errorf("%s: %v; want %v", name, third, want)
			}
			if l := l[:cap(l)]; len(l) == 0 || slices.ContainsFunc(l, func(n int) bool { return n != 77 }) {
				t.Errorf("%s: an answer is written into: %v", name, l)
			}
		}
	}
}
