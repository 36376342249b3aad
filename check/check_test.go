package check_test

import (
	"math"
	"slices"
	"strconv"
	"strings"
	"testing"

	"oubliette/alloc"
	"oubliette/api"
	"oubliette/check"
	"oubliette/rir"
)

// What code over cells is made of.
func set(dst, n int) api.Ir          { return api.Ir{Op: api.IrConst, Dst: dst, N: n} }
func move(dst, a int) api.Ir         { return api.Ir{Op: api.IrMove, Dst: dst, A: a} }
func op(dst, a, n, b int) api.Ir     { return api.Ir{Op: api.IrOp, Dst: dst, A: a, B: b, N: n} }
func sum(dst, a, b int) api.Ir       { return op(dst, a, api.I64Add, b) }
func chosen(dst, a, b, c int) api.Ir { return api.Ir{Op: api.IrSelect, Dst: dst, A: a, B: b, C: c} }
func load(dst, a, c, n int) api.Ir   { return api.Ir{Op: api.IrLoad, Dst: dst, A: a, C: c, N: n} }
func store(a, b, c, n int) api.Ir    { return api.Ir{Op: api.IrStore, A: a, B: b, C: c, N: n} }
func got(dst, n int) api.Ir          { return api.Ir{Op: api.IrGet, Dst: dst, N: n} }
func kept(n, a int) api.Ir           { return api.Ir{Op: api.IrSet, A: a, N: n} }
func at(n int) api.Ir                { return api.Ir{Op: api.IrLabel, N: n} }
func jump(n int) api.Ir              { return api.Ir{Op: api.IrJump, N: n} }
func jumpIf(a, n int) api.Ir         { return api.Ir{Op: api.IrIf, A: a, N: n} }
func jumpUnless(a, n int) api.Ir     { return api.Ir{Op: api.IrUnless, A: a, N: n} }
func arg(n, a int) api.Ir            { return api.Ir{Op: api.IrArg, A: a, N: n} }
func called(dst, n int) api.Ir       { return api.Ir{Op: api.IrCall, Dst: dst, N: n} }
func ret(a int) api.Ir               { return api.Ir{Op: api.IrReturn, A: a} }
func stop(n int) api.Ir              { return api.Ir{Op: api.IrStop, N: n} }

func list(l ...api.Ir) []api.Ir { return l }

func ints(l ...int) []int { return l }

// over is a code of so many cells, none of them a parameter.
func over(cells int, l ...api.Ir) api.Code { return api.Code{Cells: cells, Body: l} }

// given is one whose first cells are parameters.
func given(cells, params int, l ...api.Ir) api.Code {
	return api.Code{Cells: cells, Params: params, Body: l}
}

// run has the numbers from one on, up to but without another.
func run(from, to int) (l []int) {
	for n := from; n < to; n++ {
		l = append(l, n)
	}
	return l
}

// outsides are numbers far from any cell, place or label.
func outsides() []int {
	return []int{math.MinInt, math.MinInt + 1, math.MinInt32, -1 << 32, 1 << 31, 1 << 32, 1<<32 + 1, math.MaxInt - 1, math.MaxInt}
}

// told is a code in an error's text, that is not to be endless.
func told(c api.Code) string {
	text := strings.Join(rir.Print(c), "; ")
	if len(text) > 1500 {
		text = text[:1500] + " .."
	}
	return strconv.Itoa(c.Cells) + " cells, " + strconv.Itoa(c.Params) + " given: " + text
}

// holdRight holds that places are right, and that the reckoning says the same.
func holdRight(t *testing.T, c api.Code, l ...int) {
	t.Helper()
	if !check.Right(c, l) {
		t.Errorf("%s: %v is not right", told(c), l)
	}
	if by := wrong(c, l); by != 0 {
		t.Errorf("%s: reckoned: %v is wrong by %b", told(c), l, by)
	}
}

// holdWrong holds that places are wrong, by that alone, and that nothing is carried out over them.
func holdWrong(t *testing.T, by int, c api.Code, l ...int) {
	t.Helper()
	if check.Right(c, l) {
		t.Errorf("%s: %v is right", told(c), l)
	}
	if found := wrong(c, l); found != by {
		t.Errorf("%s: reckoned: %v is wrong by %b; want %b", told(c), l, found, by)
	}
	params := make([]int, max(0, min(c.Params, 100)))
	if v, trap, e := check.Exec(c, l, params); v != 0 || trap != 0 || e != api.ErrArg {
		t.Errorf("%s over %v: %d, %d, %d; want ErrArg", told(c), l, v, trap, e)
	}
}

// P18.1

func TestRightOfTheExample(t *testing.T) {
	c := over(2, set(0, 0), set(1, 0), op(0, 0, api.I32Add, 1), ret(0))
	holdWrong(t, byClash, c, 0, 0)
	holdRight(t, c, 0, 1)
	holdRight(t, c, 1, 0)
}

// TestRightOfCodesThatDoNotFit: whatever the places.
func TestRightOfCodesThatDoNotFit(t *testing.T) {
	hold := func(c api.Code) {
		t.Helper()
		holdWrong(t, byForm, c, run(0, min(c.Cells, 100))...)
		holdWrong(t, byForm, c, run(6, 6+min(c.Cells, 100))...)
		holdWrong(t, byForm, c)
	}
	for _, n := range append(outsides(), -2, -1, 61, 62, 63, 64, 65, 66, 1000) {
		hold(over(n))
		hold(over(n, ret(-1)))
	}
	for _, n := range append(outsides(), -2, -1, 4, 5, 60, 61, 64) {
		hold(given(3, n, ret(-1)))
	}
	hold(given(-1, -1))
	hold(given(61, 61))
	for _, n := range append(outsides(), -2, -1, 3, 4, 60, 63, 64, 65) {
		for _, x := range list(set(n, 1), move(n, 0), move(0, n), sum(n, 0, 1), sum(0, n, 1), sum(0, 1, n), chosen(n, 0, 1, 2), chosen(0, n, 1, 2), chosen(0, 1, n, 2), chosen(0, 1, 2, n),
			load(n, 0, 4, 0), load(0, n, 4, 0), store(n, 0, 4, 0), store(0, n, 4, 0), got(n, 0), kept(0, n), jumpIf(n, 7), jumpUnless(n, 7), arg(0, n)) {
			hold(over(3, at(7), x, ret(0)))
		}
		if n != -1 {
			hold(over(3, called(n, 0), ret(0)))
		}
		if n >= 0 {
			hold(over(3, ret(n)))
		}
	}
	for _, x := range list(jump(7), jumpIf(0, 7), jumpUnless(0, 7)) {
		hold(over(3, x, at(8), ret(0)))
		hold(over(3, x, at(7), at(7), ret(0)))
	}
	hold(over(3, slices.Repeat(list(set(0, 1)), 1001)...))
}

func TestRightOfCodesAtTheBounds(t *testing.T) {
	for _, c := range []api.Code{over(0), over(0, called(-1, 0), ret(-1)), {Labels: math.MinInt}, {Body: list()}} {
		holdRight(t, c)
		if !check.Right(c, []int{}) {
			t.Errorf("%s: no places are not right", told(c))
		}
	}
	holdRight(t, over(60), run(6, 66)...)
	holdRight(t, over(60), slices.Repeat(ints(-1), 60)...)
	holdRight(t, given(60, 60), run(6, 66)...)
	holdRight(t, given(60, 60), slices.Repeat(ints(0), 60)...)
	long := slices.Repeat(list(kept(0, 0)), 1000)
	holdRight(t, over(1, long...), 0)
	long[0], long[998], long[999] = at(5), called(-1, 0), jump(5)
	holdRight(t, over(1, long...), 6)
	holdWrong(t, byRegister, over(1, long...), 5)
	// Kinds that there are not name no cells.
	for _, kind := range append(outsides(), -1, 0, 17) {
		holdRight(t, over(1, api.Ir{Op: kind, Dst: 9, A: 9, B: 9, C: 9, N: 9, M: 9}), -1)
	}
}

func TestRightOfHowManyPlaces(t *testing.T) {
	for _, many := range []int{0, 1, 2, 3, 59, 60} {
		for _, places := range []int{0, 1, 2, 3, 4, 58, 59, 60, 61, 66, 1000} {
			for _, l := range [][]int{slices.Repeat(ints(-1), places), slices.Repeat(ints(0), places), slices.Repeat(ints(65), places)} {
				if places == many {
					holdRight(t, over(many), l...)
					holdRight(t, over(many, ret(-1)), l...)
					continue
				}
				holdWrong(t, byCount, over(many), l...)
				holdWrong(t, byCount, over(many, ret(-1)), l...)
			}
		}
	}
	holdWrong(t, byCount, over(2, set(0, 1), set(1, 1), sum(0, 0, 1), ret(0)), 0)
	holdWrong(t, byCount, over(2, set(0, 1), set(1, 1), sum(0, 0, 1), ret(0)), 0, 1, 2)
	holdWrong(t, byCount, over(2, set(0, 1), set(1, 1), sum(0, 0, 1), ret(0)), 0, 1, -1)
}

// TestRightOfEachPlace: of a cell that is named, of one that crosses a call, and of one that is not named.
func TestRightOfEachPlace(t *testing.T) {
	for place := -70; place < 140; place++ {
		holdPlace(t, place)
	}
	for _, place := range append(outsides(), -1<<32+5, 1<<32+7, -1<<63+6) {
		holdPlace(t, place)
	}
}

func holdPlace(t *testing.T, place int) {
	t.Helper()
	named, crossing, none := over(3, set(1, 5), ret(1)), over(3, set(1, 5), called(-1, 0), ret(1)), over(3, set(0, 5), called(-1, 0), ret(0))
	switch {
	case place < -1:
		holdWrong(t, byNumber|byNoPlace, named, -1, place, -1)
		holdWrong(t, byNumber|byNoPlace|byRegister, crossing, -1, place, -1)
		holdWrong(t, byNumber, none, 6, place, -1)
		holdWrong(t, byNumber, none, 6, -1, place)
	case place > 65:
		holdWrong(t, byNumber, named, -1, place, -1)
		holdWrong(t, byNumber, crossing, -1, place, -1)
		holdWrong(t, byNumber, none, 6, place, -1)
		holdWrong(t, byNumber, none, 6, -1, place)
	case place == -1:
		holdWrong(t, byNoPlace, named, -1, place, -1)
		holdWrong(t, byNoPlace|byRegister, crossing, -1, place, -1)
		holdRight(t, none, 6, place, -1)
	case place < 6:
		holdRight(t, named, -1, place, -1)
		holdWrong(t, byRegister, crossing, -1, place, -1)
		holdRight(t, none, 6, place, -1)
	default:
		holdRight(t, named, -1, place, -1)
		holdRight(t, crossing, -1, place, -1)
		holdRight(t, none, 6, place, -1)
		// One that is not named may be where others are.
		holdRight(t, none, place, place, place)
	}
}

// TestRightOfNamedCells: each field of each kind that is a cell makes that it needs a place.
func TestRightOfNamedCells(t *testing.T) {
	for kind := -1; kind <= 18; kind++ {
		fields, does := saying(kind)
		for i, name := range []string{"A", "B", "C", "Dst"} {
			numbers := ints(0, 0, 0, 0)
			numbers[i] = 1
			c := over(2, at(5), set(0, 1), api.Ir{Op: kind, A: numbers[0], B: numbers[1], C: numbers[2], Dst: numbers[3], N: 5})
			if kind == api.IrLabel {
				c.Body = c.Body[1:]
			}
			holdRight(t, c, 9, 10)
			if strings.Contains(fields, name) || name == "Dst" && does {
				holdWrong(t, byNoPlace, c, 9, -1)
			} else {
				holdRight(t, c, 9, -1)
			}
		}
	}
	for _, many := range []int{0, 1, 2, 59, 60} {
		for k := range 60 {
			l := run(0, 60)
			if l[k] = -1; k < many {
				holdWrong(t, byNoPlace, given(60, many), l...)
			} else {
				holdRight(t, given(60, many), l...)
			}
		}
	}
	// One that is written alone, or where nothing comes by, is named, too.
	holdWrong(t, byNoPlace, over(2, set(1, 1), ret(-1)), -1, -1)
	holdWrong(t, byNoPlace, over(2, ret(-1), kept(0, 1)), 0, -1)
	holdRight(t, over(2, called(-1, 0), ret(-1)), -1, -1)
}

// holdClash holds that the cells 0 and 1 of a code of two clash.
func holdClash(t *testing.T, c api.Code) {
	t.Helper()
	for _, place := range []int{0, 1, 5, 6, 7, 64, 65} {
		by := byClash
		if crosses, _ := alloc.Crosses(c); crosses != 0 && place < 6 {
			by |= byRegister
		}
		holdWrong(t, by, c, place, place)
		for _, other := range []int{6, 7, 8, 64, 65} {
			if other != place && place >= 6 {
				holdRight(t, c, place, other)
				holdRight(t, c, other, place)
			}
		}
	}
}

// holdTogether holds that the cells 0 and 1 of a code of two may be at one place.
func holdTogether(t *testing.T, c api.Code) {
	t.Helper()
	for _, place := range []int{6, 7, 64, 65} {
		holdRight(t, c, place, place)
		holdRight(t, c, place, 8)
		holdRight(t, c, 8, place)
	}
}

func TestRightOfCellsThatClash(t *testing.T) {
	// One is written where the other one is needed, whichever comes first.
	holdClash(t, over(2, set(0, 1), set(1, 1), sum(0, 0, 1), ret(0)))
	holdClash(t, over(2, set(1, 1), set(0, 1), sum(0, 0, 1), ret(0)))
	holdClash(t, over(2, set(1, 1), set(0, 1), ret(1)))
	holdClash(t, over(2, set(0, 1), set(1, 1), ret(0)))
	// By each kind that writes.
	for _, x := range list(set(1, 1), move(1, 0), sum(1, 0, 0), chosen(1, 0, 0, 0), load(1, 0, 4, 0), got(1, 0), called(1, 0)) {
		holdClash(t, over(2, set(0, 1), x, ret(0)))
		holdTogether(t, over(2, set(0, 1), x, ret(1)))
		holdTogether(t, over(2, set(0, 1), kept(0, 0), x, ret(-1)))
	}
	// One that nothing writes, or that alone which needs it, too.
	holdClash(t, over(2, set(0, 1), ret(1)))
	holdClash(t, over(2, set(0, 1), move(1, 1), ret(1)))
	holdTogether(t, over(2, kept(0, 1), set(0, 1), ret(0)))
	// Both are needed, but none is written.
	holdTogether(t, over(2, sum(0, 0, 1), ret(0)))
	holdTogether(t, given(2, 1, sum(0, 0, 1), ret(0)))
	// Where nothing comes by, something is needed, too.
	holdClash(t, over(2, ret(-1), set(0, 1), ret(1)))
	holdTogether(t, over(2, set(0, 1), ret(-1), kept(0, 1)))
	// Round a loop, and in arms.
	holdClash(t, over(2, at(1), kept(0, 0), set(1, 1), jumpIf(1, 1), ret(-1)))
	holdTogether(t, over(2, at(1), set(0, 1), kept(0, 0), set(1, 1), jumpIf(1, 1), ret(-1)))
	holdTogether(t, over(2, set(0, 1), jumpUnless(0, 1), kept(0, 0), ret(-1), at(1), set(1, 1), ret(1)))
	holdClash(t, over(2, set(0, 1), set(1, 2), jumpUnless(0, 1), ret(0), at(1), ret(1)))
}

func TestRightOfParameters(t *testing.T) {
	holdTogether(t, given(2, 2))
	holdTogether(t, given(2, 2, ret(-1)))
	holdTogether(t, given(2, 2, set(0, 1), ret(0)))
	holdClash(t, given(2, 2, ret(0)))
	holdClash(t, given(2, 2, ret(1)))
	holdClash(t, given(2, 2, sum(0, 0, 1), ret(0)))
	holdClash(t, given(2, 2, set(0, 1), kept(0, 0), ret(1)))
	holdClash(t, given(2, 2, called(-1, 0), ret(1)))
	// One of them is no parameter.
	holdTogether(t, given(2, 1, ret(0)))
	holdTogether(t, given(2, 1, ret(1)))
	// Of three, the last one is needed: the first two may be together.
	c := given(3, 3, ret(2))
	holdRight(t, c, 0, 0, 1)
	holdWrong(t, byClash, c, 0, 1, 0)
	holdWrong(t, byClash, c, 1, 0, 0)
	holdWrong(t, byClash, c, 0, 0, 0)
}

// inOneLine has many cells written one behind the other, then read: all clash.
func inOneLine(many int, between ...api.Ir) api.Code {
	c := over(many)
	for k := range many {
		c.Body = append(c.Body, set(k, k))
	}
	c.Body = append(c.Body, between...)
	for k := range many {
		c.Body = append(c.Body, kept(0, k))
	}
	return c
}

// TestRightOfEachPair: one pair alone at one place makes all wrong.
func TestRightOfEachPair(t *testing.T) {
	c := inOneLine(60)
	for shift := range 7 {
		holdRight(t, c, run(shift, shift+60)...)
	}
	for a := range 60 {
		for b := range a {
			l := run(0, 60)
			if l[a] = b; check.Right(c, l) {
				t.Fatalf("%d at the place of %d is right", a, b)
			}
			l = run(6, 66)
			if l[b] = 6 + a; check.Right(c, l) {
				t.Fatalf("%d at the place of %d is right", b, a)
			}
		}
	}
	// Two pairs, of which but the latter one clashes.
	c = over(4, set(0, 1), kept(0, 0), set(1, 1), kept(0, 1), set(2, 1), set(3, 1), store(2, 3, 4, 0))
	holdRight(t, c, 0, 0, 0, 1)
	holdRight(t, c, 0, 0, 1, 0)
	holdWrong(t, byClash, c, 0, 0, 0, 0)
	holdWrong(t, byClash, c, 0, 0, 1, 1)
	holdWrong(t, byClash, c, 0, 1, 2, 2)
}

// TestRightOfEachCellThatCrosses: one alone in a register makes all wrong.
func TestRightOfEachCellThatCrosses(t *testing.T) {
	c := inOneLine(60, called(-1, 0))
	holdRight(t, c, run(6, 66)...)
	for k := range 60 {
		for _, place := range []int{0, 5} {
			l := run(6, 66)
			l[k] = place
			holdWrong(t, byRegister, c, l...)
			// What the call brings itself does not cross it.
			c := inOneLine(60, called(k, 0))
			holdRight(t, c, l...)
			l[(k+1)%60] = 4
			holdWrong(t, byRegister, c, l...)
		}
	}
	holdWrong(t, byRegister, over(1, set(0, 0), called(-1, 0), ret(0)), 0)
	holdRight(t, over(1, set(0, 0), called(-1, 0), ret(0)), 6)
	// What is needed at the call alone, or is written behind it.
	holdRight(t, over(2, set(0, 1), arg(0, 0), called(1, 0), ret(1)), 0, 0)
	holdRight(t, over(2, set(0, 1), called(-1, 0), set(0, 2), ret(0)), 0, -1)
	// What one call brings crosses the next one.
	holdWrong(t, byRegister, over(2, called(0, 0), called(1, 0), sum(0, 0, 1), ret(0)), 0, 1)
	holdRight(t, over(2, called(0, 0), called(1, 0), sum(0, 0, 1), ret(0)), 6, 1)
	holdWrong(t, byRegister, given(3, 2, called(-1, 0), ret(1)), 6, 5, -1)
	holdRight(t, given(3, 2, called(-1, 0), ret(1)), 0, 6, -1)
	holdWrong(t, byRegister, given(2, 2, at(1), kept(0, 1), called(0, 0), jumpIf(0, 1), ret(-1)), 0, 1)
	holdRight(t, given(2, 2, at(1), kept(0, 1), called(0, 0), jumpIf(0, 1), ret(-1)), 0, 9)
}

// TestRightOfWhatAllocAnswers: it keeps to what is asked here.
func TestRightOfWhatAllocAnswers(t *testing.T) {
	for _, many := range []int{0, 1, 5, 6, 7, 59, 60} {
		for _, c := range []api.Code{over(many), given(many, many), inOneLine(many), inOneLine(many, called(-1, 0))} {
			l, _ := alloc.Alloc(c)
			holdRight(t, c, l...)
		}
	}
}

// P3

func TestWhatIsHandedInStays(t *testing.T) {
	body := slices.Grow(list(jump(1), set(1, 1), at(1), op(1, 0, api.I64Sub, 0), jumpIf(1, 1), ret(1)), 5)
	places := slices.Grow(ints(3, 9, 7), 4)
	params := slices.Grow(ints(5), 4)
	allBody, allPlaces, allParams := body[:cap(body)], places[:cap(places)], params[:cap(params)]
	bodyBefore, placesBefore, paramsBefore := slices.Clone(allBody), slices.Clone(allPlaces), slices.Clone(allParams)
	c := given(3, 1, body...)
	for range 2 {
		if !check.Right(c, places) {
			t.Error("not right")
		}
		if v, trap, e := check.Exec(c, places, params); v != 0 || trap != 0 || e != api.OK {
			t.Error(v, trap, e)
		}
		check.Exec(c, places[:2], params)
		check.Exec(c, places, params[:0])
	}
	if !slices.Equal(allBody, bodyBefore) || c.Cells != 3 || c.Params != 1 || c.Labels != 0 {
		t.Errorf("%v; was %v", allBody, bodyBefore)
	}
	if !slices.Equal(allPlaces, placesBefore) || !slices.Equal(allParams, paramsBefore) {
		t.Errorf("%v, %v; was %v, %v", allPlaces, allParams, placesBefore, paramsBefore)
	}
}
