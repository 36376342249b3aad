package rir_test

import (
	"errors"
	"math"
	"math/rand/v2"
	"slices"
	"testing"

	"oubliette/api"
	"oubliette/rir"
	"oubliette/valid"
)

// grower lets a body grow by chance, instruction by instruction: whatever breaks no rule stays.
type grower struct {
	*rand.Rand
	m     api.Module
	f     int
	words []int
	body  []api.Instr
	open  int // how many Ends are still to come
}

// tries puts x behind the body, if it may stand there, whatever comes behind it: but a block that could not end, as what it brings would be too much, may not.
func (g *grower) tries(x api.Instr) bool {
	open, rest := g.open, list(stop)
	switch x.Op {
	case api.If:
		rest = list(stop, other, stop)
		fallthrough
	case api.Block, api.Loop:
		open++
	case api.End:
		open--
	}
	if open == 0 {
		rest = nil
	}
	body := append(slices.Clone(g.body), x)
	g.m.Funcs[g.f].Body = slices.Concat(body, rest, slices.Repeat(list(end), open))
	var fault *api.Fault
	if errors.As(valid.Valid(g.m), &fault) && (fault.At < 1000*g.f+len(body) || fault.Code == api.ErrLimit) {
		return false
	}
	g.body, g.open = body, open
	return true
}

func (g *grower) oneOf(l ...int) int { return l[g.IntN(len(l))] }

func (g *grower) constant() api.Instr {
	if g.IntN(3) == 0 {
		return wide(g.oneOf(0, 1, -1, math.MinInt, math.MaxInt, g.IntN(99)))
	}
	return num(g.oneOf(0, 0, 1, 1, 2, 3, -1, math.MinInt32, math.MaxInt32))
}

// some is an instruction of any kind, wrong ones among them.
func (g *grower) some() api.Instr {
	switch g.IntN(16) {
	case 0, 1:
		return in(g.oneOf(api.LocalGet, api.LocalGet, api.LocalSet, api.LocalTee), g.IntN(5))
	case 2:
		return in(g.oneOf(api.GlobalGet, api.GlobalGet, api.GlobalSet), g.IntN(5))
	case 3, 4:
		return in(g.oneOf(api.Block, api.Loop, api.If, api.If), 0, g.oneOf(0, 0, 1, 1, 2, 3, 4))
	case 5:
		return in(g.oneOf(api.BrIf, api.BrIf, api.BrIf, api.BrIf, api.Br), g.IntN(4))
	case 6:
		return in(g.oneOf(api.I32Load, api.I64Load, api.I32Store, api.I64Store), g.oneOf(0, 0, 1, 3, 9, math.MaxUint32), g.IntN(2))
	case 7:
		return in(g.oneOf(api.Drop, api.Select, api.Classify, api.Declassify, api.Nop))
	case 8:
		return in(api.Call, g.IntN(7))
	case 9:
		return in(g.oneOf(api.Else, api.End))
	case 10, 11, 12:
		return in(g.oneOf(g.words...))
	case 13:
		if g.IntN(8) == 0 {
			return in(g.oneOf(api.Unreachable, api.Return))
		}
	}
	return g.constant()
}

// grow makes a body of at most so many instructions, and what is needed to end it.
func (g *grower) grow(most int) {
	for g.open = 1; len(g.body) < most && g.open > 0; {
		x := g.some()
		// The body itself is ended below alone, that it may become as long as it is asked to be.
		if x.Op != api.End || g.open > 1 {
			g.tries(x)
		}
	}
	for g.open > 0 {
		g.ends()
	}
}

// ends ends the last block that is open, or turns to its Else: with what it brings, if that is found soon; else dead.
func (g *grower) ends() {
	for range 12 {
		if g.tries(end) || g.tries(other) {
			return
		}
		if len(g.body) < api.MaxBody-50 {
			g.tries([]api.Instr{drop, drop, num(1), wide(1), in(api.LocalGet, g.IntN(4))}[g.IntN(5)])
		}
	}
	g.tries(stop)
}

// grownModule is a world whose functions have all grown.
func grownModule(r *rand.Rand, most int) api.Module {
	m := world([][]int{nil, {api.I32}, {api.I64}, {api.S32}, {api.S64}}[r.IntN(5)], list(stop, end))
	for f := range m.Funcs {
		m.Funcs[f].Trusted = f > 0 || r.IntN(3) > 0
		m.Funcs[f].Locals = [][]int{{api.S32, api.S64}, {api.I64}, nil, {api.I32, api.I32}}[f]
	}
	bodies := make([][]api.Instr, len(m.Funcs))
	for f := range m.Funcs {
		m.Funcs[f].Body = list(stop, end)
	}
	// What one function's body is changes nothing of what another's may be.
	for f := range m.Funcs {
		g := &grower{Rand: r, m: m, f: f, words: words()}
		g.grow(1 + r.IntN(most))
		bodies[f], m.Funcs[f].Body = g.body, list(stop, end)
	}
	for f := range m.Funcs {
		m.Funcs[f].Body = bodies[f]
	}
	return m
}

// grownModules are so many of them, always the same ones of a seed.
func grownModules(seed uint64, many, most int) (l []api.Module) {
	r := rand.New(rand.NewPCG(14, seed))
	for range many {
		l = append(l, grownModule(r, most))
	}
	return l
}

func TestGrownModulesAgainstTheReckoning(t *testing.T) {
	var used [256]int
	var made [api.IrStop + 1]int
	dead, labels := 0, 0
	for _, m := range grownModules(1, 100, 120) {
		for f := range m.Funcs {
			c, e := rir.Lower(m, f)
			texts, cells, n := reckoned(m, f)
			if e != api.OK || !slices.Equal(rir.Print(c), texts) || c.Cells != cells || c.Labels != n || c.Params != len(m.Sigs[m.Funcs[f].Sig].Params) {
				t.Fatalf("%v: %+v, %d; reckoned %v, %d, %d", m.Funcs[f].Body, c, e, texts, cells, n)
			}
			heights, _ := valid.Heights(m, f)
			for at, h := range heights {
				if h < 0 {
					dead++
				} else {
					used[m.Funcs[f].Body[at].Op]++
				}
			}
			for _, x := range c.Body {
				made[x.Op]++
				if x.Op == api.IrLabel && x.N > 2*(1+begun(m.Funcs[f].Body)) {
					labels++
				}
			}
		}
	}
	for _, op := range append(words(), plainOps()...) {
		if used[op] == 0 {
			t.Errorf("no instruction %x in all", op)
		}
	}
	for op := api.IrConst; op <= api.IrStop; op++ {
		if made[op] == 0 {
			t.Errorf("no kind %d in all", op)
		}
	}
	if dead == 0 || labels == 0 {
		t.Errorf("%d dead, %d labels made", dead, labels)
	}
}

// begun is how many blocks a body has.
func begun(body []api.Instr) (n int) {
	for _, x := range body {
		if x.Op == api.Block || x.Op == api.Loop || x.Op == api.If {
			n++
		}
	}
	return n
}

// plainOps are the instructions that chapter 2 has not.
func plainOps() []int {
	return []int{api.Unreachable, api.Nop, api.Block, api.Loop, api.If, api.Else, api.End, api.Br, api.BrIf, api.Return, api.Call, api.Drop, api.Select,
		api.LocalGet, api.LocalSet, api.LocalTee, api.GlobalGet, api.GlobalSet, api.I32Load, api.I64Load, api.I32Store, api.I64Store,
		api.I32Const, api.I64Const, api.Classify, api.Declassify}
}

// P14.3

// places are where labels stand; each must be there once, and be one of those that are counted.
func places(t *testing.T, c api.Code) map[int]int {
	t.Helper()
	at := map[int]int{}
	for i, x := range c.Body {
		if x.Op != api.IrLabel {
			continue
		}
		if _, twice := at[x.N]; twice || x.N < 1 || x.N > c.Labels {
			t.Fatalf("the label %d at %d of %+v", x.N, i, c)
		}
		at[x.N] = i
	}
	return at
}

// ways are the places that may come behind place i.
func ways(c api.Code, labels map[int]int, i int) []int {
	x := c.Body[i]
	switch x.Op {
	case api.IrReturn, api.IrStop:
		return nil
	case api.IrJump:
		return []int{labels[x.N]}
	case api.IrIf, api.IrUnless:
		return []int{labels[x.N], i + 1}
	}
	return []int{i + 1}
}

// written are, of each place that some way leads to, the cells that each of these ways has written, as bits.
func written(t *testing.T, c api.Code, labels map[int]int) map[int]uint64 {
	t.Helper()
	ahead := map[int]uint64{0: 1<<c.Params - 1}
	for work := []int{0}; len(work) > 0; work = work[1:] {
		at := work[0]
		if at >= len(c.Body) {
			t.Fatalf("a way leads behind the last instruction of %+v", c)
		}
		behind := ahead[at]
		if d := rir.Defs(c.Body[at]); d >= 0 {
			behind |= 1 << d
		}
		for _, to := range ways(c, labels, at) {
			old, seen := ahead[to]
			both := behind
			if seen {
				both &= old
			}
			if !seen || both != old {
				ahead[to] = both
				work = append(work, to)
			}
		}
	}
	return ahead
}

// holdSound holds what P14.3 says of a code.
func holdSound(t *testing.T, c api.Code) {
	t.Helper()
	labels := places(t, c)
	for i, x := range c.Body {
		if x.Op == api.IrJump || x.Op == api.IrIf || x.Op == api.IrUnless {
			if _, ok := labels[x.N]; !ok {
				t.Fatalf("at %d a jump to no label in %+v", i, c)
			}
		}
		for _, cell := range append(rir.Uses(x), rir.Defs(x)) {
			if cell >= c.Cells {
				t.Fatalf("at %d there is no cell %d in %+v", i, cell, c)
			}
		}
	}
	for at, cells := range written(t, c, labels) {
		for _, cell := range rir.Uses(c.Body[at]) {
			if cells>>cell&1 == 0 {
				t.Fatalf("at %d the cell %d is read and not written in %+v", at, cell, c)
			}
		}
	}
}

func TestLabelsAndCellsOfGrownModules(t *testing.T) {
	for _, m := range grownModules(2, 100, 120) {
		for f := range m.Funcs {
			c, _ := rir.Lower(m, f)
			holdSound(t, c)
		}
	}
}

// TestLabelsAndCellsOfShortBodies: of all bodies of a few instructions that may be.
func TestLabelsAndCellsOfShortBodies(t *testing.T) {
	parts := list(num(1), drop, in(api.Block), opens(api.Block, api.I32), in(api.Loop), in(api.If), opens(api.If, api.I32), other, end, in(api.Br), in(api.BrIf), in(api.BrIf, 1), stop)
	sound := 0
	var each func(m api.Module, left int)
	each = func(m api.Module, left int) {
		own := &m.Funcs[0]
		own.Body = append(own.Body, end)
		if c, e := rir.Lower(m, 0); e == api.OK {
			sound++
			holdSound(t, c)
			if texts, cells, labels := reckoned(m, 0); !slices.Equal(rir.Print(c), texts) || c.Cells != cells || c.Labels != labels {
				t.Fatalf("%v: %+v; reckoned %v, %d, %d", own.Body, c, texts, cells, labels)
			}
		}
		own.Body = own.Body[:len(own.Body)-1]
		if left == 0 {
			return
		}
		for _, x := range parts {
			own.Body = append(own.Body, x)
			each(m, left-1)
			own.Body = own.Body[:len(own.Body)-1]
		}
	}
	for _, results := range [][]int{nil, {api.I32}} {
		each(bare(results, nil), 5)
	}
	if sound < 1000 {
		t.Errorf("of %d bodies alone", sound)
	}
}

// P3, P4

// roomy is m anew, with room behind its lists that nobody may write into.
func roomy(m api.Module) api.Module {
	m.Imports = append(slices.Clone(m.Imports), 77)[:len(m.Imports)]
	m.Sigs, m.Funcs = slices.Clone(m.Sigs), slices.Clone(m.Funcs)
	for i, s := range m.Sigs {
		m.Sigs[i].Params = append(slices.Clone(s.Params), 77)[:len(s.Params)]
		m.Sigs[i].Results = append(slices.Clone(s.Results), 77)[:len(s.Results)]
	}
	for i, f := range m.Funcs {
		m.Funcs[i].Locals = append(slices.Clone(f.Locals), 77)[:len(f.Locals)]
		m.Funcs[i].Body = append(slices.Clone(f.Body), in(77))[:len(f.Body)]
	}
	return m
}

// untouched: whether m, made by roomy, is still as it was made of the module that was.
func untouched(m, was api.Module) bool {
	same := slices.Equal(m.Imports, was.Imports) && m.Imports[:cap(m.Imports)][len(m.Imports)] == 77
	for i, s := range m.Sigs {
		same = same && slices.Equal(s.Params, was.Sigs[i].Params) && s.Params[:cap(s.Params)][len(s.Params)] == 77
		same = same && slices.Equal(s.Results, was.Sigs[i].Results) && s.Results[:cap(s.Results)][len(s.Results)] == 77
	}
	for i, f := range m.Funcs {
		same = same && slices.Equal(f.Locals, was.Funcs[i].Locals) && f.Locals[:cap(f.Locals)][len(f.Locals)] == 77
		same = same && slices.Equal(f.Body, was.Funcs[i].Body) && f.Body[:cap(f.Body)][len(f.Body)] == in(77)
	}
	return same
}

func TestWhatIsHandedInStaysAsItWas(t *testing.T) {
	for _, was := range grownModules(3, 20, 60) {
		m := roomy(was)
		for f := range m.Funcs {
			rir.Lower(m, f)
		}
		if !untouched(m, was) {
			t.Errorf("%v became %v", was, m)
		}
		c, _ := rir.Lower(m, 0)
		before := slices.Clone(c.Body[:cap(c.Body)])
		rir.Print(c)
		if !slices.Equal(c.Body[:cap(c.Body)], before) {
			t.Errorf("%v became %v", before, c.Body)
		}
	}
}

func TestAnswersAreNewMemoryAndStayTheSame(t *testing.T) {
	for _, m := range grownModules(4, 20, 60) {
		first, _ := rir.Lower(m, 0)
		want := api.Code{Cells: first.Cells, Params: first.Params, Labels: first.Labels, Body: slices.Clone(first.Body)}
		second, _ := rir.Lower(m, 0)
		texts := rir.Print(second)
		for i := range first.Body[:cap(first.Body)] {
			first.Body[:cap(first.Body)][i] = api.Ir{Op: 99, Dst: 99}
		}
		rir.Lower(m, 1)
		if third, _ := rir.Lower(m, 0); !alike(second, want) || !alike(third, want) || !slices.Equal(texts, rir.Print(third)) {
			t.Errorf("%+v and %+v; want %+v", second, third, want)
		}
		for _, x := range want.Body {
			one, two := rir.Uses(x), rir.Uses(x)
			for i := range one[:cap(one)] {
				one[:cap(one)][i] = 99
			}
			if !slices.Equal(two, rir.Uses(x)) {
				t.Errorf("Uses(%+v) changed to %v", x, two)
			}
		}
	}
}
