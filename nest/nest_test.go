package nest_test

import (
	"math"
	"math/rand/v2"
	"slices"
	"testing"

	"oubliette/api"
	"oubliette/nest"
)

// shown is a body's beginning, of such as are too long to be read.
func shown(l []api.Instr) []api.Instr { return l[:min(len(l), 100)] }

// holdSpans holds Spans, and the errors of Depth, which are the same.
func holdSpans(t *testing.T, l []api.Instr, want []nest.Span, e api.Errno) {
	t.Helper()
	if got, ge := nest.Spans(l); !slices.Equal(got, want) || ge != e {
		t.Errorf("Spans(%v) = %v, %d; want %v, %d", shown(l), got, ge, want, e)
	}
	if got, ge := nest.Depth(l); ge != e || e != api.OK && len(got) != 0 {
		t.Errorf("Depth(%v) = %v, %d; want the error %d", shown(l), got, ge, e)
	}
}

func holdDepth(t *testing.T, l []api.Instr, want []int) {
	t.Helper()
	if got, e := nest.Depth(l); !slices.Equal(got, want) || e != api.OK {
		t.Errorf("Depth(%v) = %v, %d; want %v", shown(l), got, e, want)
	}
}

func holdTarget(t *testing.T, l []api.Instr, at, depth, place int, back bool, e api.Errno) {
	t.Helper()
	if gp, gb, ge := nest.Target(l, at, depth); gp != place || gb != back || ge != e {
		t.Errorf("Target(%v, %d, %d) = %d, %v, %d; want %d, %v, %d", shown(l), at, depth, gp, gb, ge, place, back, e)
	}
}

// refused holds that all calls tell one error of l, Target whatever place and depth it is asked.
func refused(t *testing.T, name string, l []api.Instr, e api.Errno) {
	t.Helper()
	t.Run(name, func(t *testing.T) {
		holdSpans(t, l, nil, e)
		for _, at := range []int{math.MinInt, -1, 0, 1, len(l) - 1, len(l), math.MaxInt} {
			for _, depth := range []int{math.MinInt, -1, 0, 1, math.MaxInt} {
				holdTarget(t, l, at, depth, 0, false, e)
			}
		}
	})
}

// holdAll holds every call against the reading by the grammar, Target of each place and each depth, and of those just outside.
func holdAll(t *testing.T, l []api.Instr) {
	t.Helper()
	spans, e := spansOf(l)
	holdSpans(t, l, spans, e)
	if e != api.OK {
		holdTarget(t, l, 0, 0, 0, false, e)
		return
	}
	depths := make([]int, len(l))
	for at := range l {
		depths[at] = len(aroundOf(spans, at)) - 1
	}
	holdDepth(t, l, depths)
	for at := -1; at <= len(l); at++ {
		for depth := -1; depth <= 10; depth++ {
			place, back, e := targetOf(l, spans, at, depth)
			holdTarget(t, l, at, depth, place, back, e)
		}
	}
}

// example is a body with blocks of all sorts, within one another and one behind the other; what is told of it is written out by hand.
func example() (l []api.Instr, spans []nest.Span, depths []int) {
	l = of(
		api.Loop,        // 0
		api.If,          // 1
		api.Br,          // 2
		api.Block,       // 3
		api.BrIf,        // 4
		api.End,         // 5
		api.Else,        // 6
		api.Loop,        // 7
		api.Br,          // 8
		api.End,         // 9
		api.End,         // 10
		api.If,          // 11
		api.Nop,         // 12
		api.End,         // 13
		api.End,         // 14
		api.Unreachable, // 15
		api.Block,       // 16
		api.End,         // 17
		api.Return,      // 18
		api.End,         // 19
	)
	spans = []nest.Span{{0, -1, 14}, {1, 6, 10}, {3, -1, 5}, {7, -1, 9}, {11, -1, 13}, {16, -1, 17}, {-1, -1, 19}}
	depths = []int{0, 1, 2, 2, 3, 2, 1, 2, 3, 2, 1, 1, 2, 1, 0, 0, 0, 0, 0, 0}
	return l, spans, depths
}

// P6.1: ordinary bodies.

func TestTheChaptersExample(t *testing.T) {
	l := of(api.Block, api.If, api.Br, api.Else, api.End, api.End, api.End)
	holdSpans(t, l, []nest.Span{{0, -1, 5}, {1, 3, 4}, {-1, -1, 6}}, api.OK)
	holdDepth(t, l, []int{0, 1, 2, 1, 1, 0, 0})
	holdTarget(t, l, 2, 0, 4, false, api.OK)
	holdTarget(t, l, 2, 1, 5, false, api.OK)
	holdTarget(t, l, 2, 2, 6, false, api.OK)
	holdTarget(t, l, 2, 3, 0, false, api.ErrInvalid)
}

func TestSpansAndDepthOfAKnownBody(t *testing.T) {
	l, spans, depths := example()
	holdSpans(t, l, spans, api.OK)
	holdDepth(t, l, depths)
}

func TestEachSortAlone(t *testing.T) {
	for _, op := range openers() {
		holdSpans(t, of(op, api.End, api.End), []nest.Span{{0, -1, 1}, {-1, -1, 2}}, api.OK)
		holdDepth(t, of(op, api.End, api.End), []int{0, 0, 0})
		holdSpans(t, of(api.Nop, op, api.Nop, api.End, api.Nop, api.End), []nest.Span{{1, -1, 3}, {-1, -1, 5}}, api.OK)
		holdDepth(t, of(api.Nop, op, api.Nop, api.End, api.Nop, api.End), []int{0, 0, 1, 0, 0, 0})
	}
}

func TestOneWithinTheOtherAndOneBehindTheOther(t *testing.T) {
	for _, a := range openers() {
		for _, b := range openers() {
			holdSpans(t, of(a, b, api.End, api.End, api.End), []nest.Span{{0, -1, 3}, {1, -1, 2}, {-1, -1, 4}}, api.OK)
			holdDepth(t, of(a, b, api.End, api.End, api.End), []int{0, 1, 1, 0, 0})
			holdSpans(t, of(a, api.End, b, api.End, api.End), []nest.Span{{0, -1, 1}, {2, -1, 3}, {-1, -1, 4}}, api.OK)
			holdDepth(t, of(a, api.End, b, api.End, api.End), []int{0, 0, 0, 0, 0})
		}
	}
}

func TestEachIfHasItsOwnElse(t *testing.T) {
	l := of(api.If, api.If, api.Else, api.End, api.Else, api.If, api.Else, api.End, api.End, api.If, api.Else, api.End, api.End)
	holdSpans(t, l, []nest.Span{{0, 4, 8}, {1, 2, 3}, {5, 6, 7}, {9, 10, 11}, {-1, -1, 12}}, api.OK)
	holdDepth(t, l, []int{0, 1, 1, 1, 0, 1, 1, 1, 0, 0, 0, 0, 0})
}

// P6.1: the edges.

func TestABodyOfItsEndAlone(t *testing.T) {
	holdSpans(t, of(api.End), []nest.Span{{-1, -1, 0}}, api.OK)
	holdDepth(t, of(api.End), []int{0})
	holdTarget(t, of(api.End), 0, 0, 0, false, api.OK)
	holdTarget(t, of(api.End), 0, 1, 0, false, api.ErrInvalid)
	holdTarget(t, of(api.End), 1, 0, 0, false, api.ErrInvalid)
}

func TestAnElseBesideItsIfAndItsEnd(t *testing.T) {
	for name, c := range map[string]struct {
		l      []api.Instr
		span   nest.Span
		depths []int
	}{
		"directly behind its If":     {of(api.If, api.Else, api.Nop, api.End, api.End), nest.Span{Begin: 0, Else: 1, End: 3}, []int{0, 0, 1, 0, 0}},
		"directly ahead of its End":  {of(api.If, api.Nop, api.Else, api.End, api.End), nest.Span{Begin: 0, Else: 2, End: 3}, []int{0, 1, 0, 0, 0}},
		"between both":               {of(api.If, api.Else, api.End, api.End), nest.Span{Begin: 0, Else: 1, End: 2}, []int{0, 0, 0, 0}},
		"behind a block's End":       {of(api.If, api.Block, api.End, api.Else, api.End, api.End), nest.Span{Begin: 0, Else: 3, End: 4}, []int{0, 1, 1, 0, 0, 0}},
		"ahead of a block's opening": {of(api.If, api.Else, api.Loop, api.End, api.End, api.End), nest.Span{Begin: 0, Else: 1, End: 4}, []int{0, 0, 1, 1, 0, 0}},
	} {
		t.Run(name, func(t *testing.T) {
			if got, e := nest.Spans(c.l); e != api.OK || got[0] != c.span {
				t.Errorf("Spans(%v) = %v, %d; want %v first", c.l, got, e, c.span)
			}
			holdDepth(t, c.l, c.depths)
			holdAll(t, c.l)
		})
	}
}

func TestAsManyOpenAsMayBe(t *testing.T) {
	for n := range 8 + 1 {
		l := chain(n)
		var spans []nest.Span
		for i := range n {
			spans = append(spans, nest.Span{Begin: i, Else: -1, End: 2*n - 1 - i})
		}
		holdSpans(t, l, append(spans, nest.Span{Begin: -1, Else: -1, End: 2 * n}), api.OK)
		holdAll(t, l)
	}
	l := slices.Concat(slices.Repeat(of(api.If), 8), of(api.Br, api.Else, api.Br), slices.Repeat(of(api.End), 9))
	holdDepth(t, l, []int{0, 1, 2, 3, 4, 5, 6, 7, 8, 7, 8, 7, 6, 5, 4, 3, 2, 1, 0, 0})
	holdAll(t, l)
}

func TestOneMoreOpenThanMayBe(t *testing.T) {
	inner := func(n int) []api.Instr { l := chain(n); return l[:len(l)-1] }
	for _, n := range []int{9, 10, 17, 300} {
		refused(t, "a chain", chain(n), api.ErrLimit)
	}
	for _, op := range openers() {
		refused(t, "all of one sort", slices.Concat(slices.Repeat(of(op), 9), slices.Repeat(of(api.End), 10)), api.ErrLimit)
	}
	refused(t, "the last one is an If with an Else", slices.Concat(slices.Repeat(of(api.Block), 8), of(api.If, api.Else), slices.Repeat(of(api.End), 10)), api.ErrLimit)
	refused(t, "behind an Else", slices.Concat(of(api.If, api.Else), inner(8), of(api.End, api.End)), api.ErrLimit)
	refused(t, "ahead of an Else", slices.Concat(of(api.If), inner(8), of(api.Else, api.End, api.End)), api.ErrLimit)
	refused(t, "behind others", slices.Concat(inner(8), inner(3), inner(9), inner(1), of(api.End)), api.ErrLimit)
	refused(t, "in the midst", slices.Concat(inner(2), of(api.Loop, api.Block, api.End), inner(8), of(api.End, api.End)), api.ErrLimit)
}

func TestHowManyThereAreIsNoMatter(t *testing.T) {
	inner := chain(8)
	l := append(slices.Repeat(inner[:len(inner)-1], 3000), of(api.End)...)
	spans, e := nest.Spans(l)
	if want, _ := spansOf(l); e != api.OK || len(spans) != 24001 || !slices.Equal(spans, want) {
		t.Errorf("%d spans, %d; want 24001", len(spans), e)
	}
	depths, e := nest.Depth(l)
	if e != api.OK || len(depths) != 48001 {
		t.Errorf("%d depths, %d; want 48001", len(depths), e)
	}
	for at, got := range depths[:48000] {
		if want := []int{0, 1, 2, 3, 4, 5, 6, 7, 7, 6, 5, 4, 3, 2, 1, 0}[at%16]; got != want {
			t.Fatalf("depth of %d is %d; want %d", at, got, want)
		}
	}
	holdTarget(t, l, 47991, 5, 47985, true, api.OK)
	holdTarget(t, l, 47991, 6, 47999, false, api.OK)
	holdTarget(t, l, 47991, 7, 48000, false, api.OK)
}

// P6.1: what else stands there counts for nothing.

func TestAllElseIsNotLookedAt(t *testing.T) {
	l, spans, depths := example()
	for i := range l {
		l[i].N, l[i].M = []int{math.MinInt, math.MaxInt, -1, 1 << 32}[i%4], []int{-1, 99, math.MaxInt}[i%3]
	}
	holdSpans(t, l, spans, api.OK)
	holdDepth(t, l, depths)
	others := []int{math.MinInt, math.MaxInt, -1, 256, 0xff}
	for op := range 256 {
		if !slices.Contains([]int{api.Block, api.Loop, api.If, api.Else, api.End}, op) {
			others = append(others, op)
			continue
		}
		others = append(others, op|1<<8, op|1<<32, op|math.MinInt, op-256, -op, ^op)
	}
	for _, op := range others {
		holdSpans(t, of(op, api.If, op, api.Else, op, api.End, op, api.End), []nest.Span{{1, 3, 5}, {-1, -1, 7}}, api.OK)
		holdDepth(t, of(op, api.If, op, api.Else, op, api.End, op, api.End), []int{0, 0, 1, 0, 1, 0, 0, 0})
		refused(t, "no End", of(op), api.ErrInvalid)
		refused(t, "behind the last End", of(api.End, op), api.ErrInvalid)
	}
}

// P6.1: wrong bodies.

func TestWhatIsNotNested(t *testing.T) {
	for name, l := range map[string][]api.Instr{
		"nothing":                                   nil,
		"nothing, but not nil":                      {},
		"no End":                                    of(api.Nop),
		"an End too many":                           of(api.End, api.End),
		"an End too many behind a block":            of(api.Block, api.End, api.End, api.End),
		"an End too many ahead of a block":          of(api.End, api.Block, api.End, api.End),
		"an End too few":                            of(api.Block, api.End),
		"two Ends too few":                          of(api.Loop, api.If, api.End),
		"an End too few of an If with an Else":      of(api.If, api.Else, api.End),
		"a block opened last":                       of(api.Block),
		"a block opened behind the last End":        of(api.End, api.Loop),
		"a whole block behind the last End":         of(api.End, api.Loop, api.End),
		"something behind the last End":             of(api.Nop, api.End, api.Nop),
		"an Else behind the last End":               of(api.If, api.End, api.End, api.Else),
		"an Else alone":                             of(api.Else),
		"an Else in the body":                       of(api.Else, api.End),
		"an Else in the body behind an If":          of(api.If, api.End, api.Else, api.End),
		"an Else in the body ahead of an If":        of(api.Else, api.If, api.End, api.End),
		"an Else in a Block":                        of(api.Block, api.Else, api.End, api.End),
		"an Else in a Loop":                         of(api.Loop, api.Else, api.End, api.End),
		"an Else in a Block within an If":           of(api.If, api.Block, api.Else, api.End, api.End, api.End),
		"an Else in a Loop within an If":            of(api.If, api.Loop, api.Else, api.End, api.End, api.End),
		"an Else in a Block behind an If within it": of(api.Block, api.If, api.End, api.Else, api.End, api.End),
		"an Else twice in one If":                   of(api.If, api.Else, api.Else, api.End, api.End),
		"an Else twice, with an If between":         of(api.If, api.Else, api.If, api.Else, api.End, api.Else, api.End, api.End),
		"an Else three times":                       of(api.If, api.Else, api.Else, api.Else, api.End, api.End),
		"an Else in a Block behind an Else":         of(api.If, api.Else, api.Block, api.Else, api.End, api.End, api.End),
	} {
		refused(t, name, l, api.ErrInvalid)
	}
}

func TestNotNestedIsToldAheadOfTooDeep(t *testing.T) {
	deep := chain(9)
	for name, l := range map[string][]api.Instr{
		"an End too few":             deep[:len(deep)-1],
		"all Ends too few":           deep[:9],
		"an End too many":            append(chain(9), of(api.End)...),
		"a wrong Else ahead of it":   append(of(api.Else), deep...),
		"a wrong Else at the bottom": slices.Concat(slices.Repeat(of(api.Block), 9), of(api.Else), slices.Repeat(of(api.End), 10)),
		"a wrong Else behind it":     slices.Concat(deep[:18], of(api.Else, api.End)),
		"the last End ahead of it":   append(of(api.End), deep...),
		"something behind it":        append(chain(9), of(api.Nop)...),
		"a very long one":            slices.Repeat(of(api.If), 10000),
	} {
		refused(t, name, l, api.ErrInvalid)
	}
	refused(t, "a very long one that is closed", chain(10000), api.ErrLimit)
}

// P6.2

func TestTargetsOfAKnownBody(t *testing.T) {
	l, _, depths := example()
	const last = 19
	type goal struct {
		place int
		back  bool
	}
	loop, choice, block, inner, second, body := goal{0, true}, goal{10, false}, goal{5, false}, goal{7, true}, goal{13, false}, goal{last, false}
	for at, goals := range map[int][]goal{
		0: {body}, 1: {loop, body}, 2: {choice, loop, body}, 3: {choice, loop, body}, 4: {block, choice, loop, body}, 5: {choice, loop, body},
		6: {loop, body}, 7: {choice, loop, body}, 8: {inner, choice, loop, body}, 9: {choice, loop, body}, 10: {loop, body},
		11: {loop, body}, 12: {second, loop, body}, 13: {loop, body}, 14: {body},
		15: {body}, 16: {body}, 17: {body}, 18: {body}, last: {body},
	} {
		if len(goals) != depths[at]+1 {
			t.Errorf("%d goals at %d, where %d are open", len(goals), at, depths[at])
		}
		for depth, g := range goals {
			holdTarget(t, l, at, depth, g.place, g.back, api.OK)
		}
		for _, depth := range []int{-1, -2, math.MinInt, math.MinInt + 1, math.MinInt32, len(goals), len(goals) + 1, 9, math.MaxInt32, 1 << 32, math.MaxInt} {
			holdTarget(t, l, at, depth, 0, false, api.ErrInvalid)
		}
	}
}

func TestAPlaceThatIsNone(t *testing.T) {
	l, _, _ := example()
	for _, at := range []int{-1, -2, len(l), len(l) + 1, 1 << 32, 1<<32 | 2, math.MinInt32, math.MaxInt32, math.MinInt, math.MinInt + 2, math.MaxInt} {
		for _, depth := range []int{math.MinInt, -1, 0, 1, 2, math.MaxInt} {
			holdTarget(t, l, at, depth, 0, false, api.ErrInvalid)
		}
	}
}

func TestABranchToTheBodyItself(t *testing.T) {
	for _, op := range openers() {
		l := of(op, api.Br, api.End, api.End)
		holdTarget(t, l, 0, 0, 3, false, api.OK)
		holdTarget(t, l, 1, 1, 3, false, api.OK)
		holdTarget(t, l, 2, 0, 3, false, api.OK)
		holdTarget(t, l, 3, 0, 3, false, api.OK)
		for _, at := range []int{0, 2, 3} {
			holdTarget(t, l, at, 1, 0, false, api.ErrInvalid)
		}
		holdTarget(t, l, 1, 2, 0, false, api.ErrInvalid)
	}
}

func TestTheBodysErrorsAreToldAheadOfThePlaces(t *testing.T) {
	for _, at := range []int{-1, 0, 9, 19, 20} {
		for _, depth := range []int{-1, 0, 8, 9, 10} {
			holdTarget(t, chain(9), at, depth, 0, false, api.ErrLimit)
		}
	}
}

// P6.1 and P6.2 of all small bodies, and of greater ones by chance.

func TestEverySmallBody(t *testing.T) {
	right := 0
	everyBody(7, func(l []api.Instr) {
		if _, e := nest.Spans(l); e == api.OK {
			right++
		}
		holdAll(t, l)
	})
	if right == 0 {
		t.Error("no body was nested")
	}
}

func TestGreaterBodies(t *testing.T) {
	r := rand.New(rand.NewPCG(6, 1))
	count := map[api.Errno]int{}
	for range 300 {
		l := grown(r, 2+r.IntN(4))
		if r.IntN(8) == 0 {
			l = slices.Concat(slices.Repeat(of(api.Loop), 5), l[:len(l)-1], slices.Repeat(of(api.End), 6))
		}
		l = l[max(0, len(l)-150):]
		_, e := spansOf(l)
		count[e]++
		holdAll(t, l)
		l = slices.Clone(l)
		l[r.IntN(len(l))].Op = []int{api.Block, api.Loop, api.If, api.Else, api.End, api.Nop}[r.IntN(6)]
		holdAll(t, l)
	}
	for _, e := range []api.Errno{api.OK, api.ErrLimit, api.ErrInvalid} {
		if count[e] == 0 {
			t.Errorf("no body told %d", e)
		}
	}
}

// P6.3

func TestTwoSpansLieWithinOrBehind(t *testing.T) {
	hold := func(l []api.Instr) {
		spans, _ := nest.Spans(l)
		for i, a := range spans {
			if i > 0 && i < len(spans)-1 && spans[i-1].Begin >= a.Begin {
				t.Errorf("%v: %v is told behind %v", l, a, spans[i-1])
			}
			for _, b := range spans[:i] {
				behind := a.End < b.Begin || b.End < a.Begin
				within := a.Begin < b.Begin && b.End < a.End || b.Begin < a.Begin && a.End < b.End
				if behind == within {
					t.Errorf("%v: %v and %v: behind %v, within %v", l, a, b, behind, within)
				}
			}
			if a.Else != -1 && (a.Else <= a.Begin || a.Else >= a.End) {
				t.Errorf("%v: the Else of %v stands outside", l, a)
			}
		}
	}
	everyBody(6, hold)
	r := rand.New(rand.NewPCG(6, 3))
	for range 100 {
		hold(grown(r, 4))
	}
	l, _, _ := example()
	hold(l)
	hold(chain(8))
}

// P3 and P4

func TestWhatIsHandedInIsNotWrittenInto(t *testing.T) {
	example, _, _ := example()
	for _, body := range [][]api.Instr{example, chain(9), of(api.Block, api.Else), of(api.End)} {
		room := append(slices.Clone(body), slices.Repeat([]api.Instr{{Op: api.Br, N: 7, M: 9}}, 30)...)
		before := slices.Clone(room)
		l := room[:len(body)]
		nest.Spans(l)
		nest.Depth(l)
		nest.Target(l, 2, 1)
		if !slices.Equal(room, before) {
			t.Errorf("%v became %v", before, room)
		}
	}
}

func TestAnswersAreNewMemory(t *testing.T) {
	l, wantSpans, wantDepths := example()
	spans, _ := nest.Spans(l)
	depths, _ := nest.Depth(l)
	other, _ := nest.Spans(l)
	again, _ := nest.Depth(l)
	spans, depths = spans[:cap(spans)], depths[:cap(depths)]
	for i := range spans {
		spans[i] = nest.Span{Begin: 77, Else: 77, End: 77}
	}
	for i := range depths {
		depths[i] = 77
	}
	if !slices.Equal(other, wantSpans) || !slices.Equal(again, wantDepths) {
		t.Errorf("%v, %v changed with another answer", other, again)
	}
	holdSpans(t, l, wantSpans, api.OK)
	holdDepth(t, l, wantDepths)
}

func TestAnswersHangOnTheArgumentsAlone(t *testing.T) {
	l, spans, depths := example()
	for range 3 {
		for _, other := range [][]api.Instr{chain(9), of(api.If, api.Else, api.Else), nil, chain(8)} {
			nest.Spans(other)
			nest.Depth(other)
			nest.Target(other, 0, 0)
			holdSpans(t, l, spans, api.OK)
			holdDepth(t, l, depths)
			holdTarget(t, l, 4, 1, 10, false, api.OK)
		}
	}
}
