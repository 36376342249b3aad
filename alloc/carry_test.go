package alloc_test

import (
	"math/rand/v2"
	"slices"
	"testing"

	"oubliette/alloc"
	"oubliette/api"
	"oubliette/word"
)

// P17.4: over places there comes out what comes out over cells of their own, though a call spoils all registers.

// outcome is all that comes out of a code: what it tells the host, what it leaves in globals and memories, what it brings, how it ends.
type outcome struct {
	told    []int
	globals [4]int
	mems    [2][16]int
	v, end  int
	steps   []int
}

// How a code ends, beside its traps.
const (
	returned = 100 + iota
	behind
	running
)

// carrier carries a code out, in a way that is like a machine's, but always goes on.
type carrier struct {
	outcome
	c      api.Code
	places []int // of each cell
	kept   map[int]int
	args   [4]int
	call   func(kept map[int]int) // what a call does to the places
}

// carried is what comes out of c, if its cells are at those places, params are handed in, and call is what a call does to the places.
func carried(c api.Code, places, params []int, call func(kept map[int]int)) outcome {
	k := &carrier{c: c, places: places, kept: map[int]int{}, call: call}
	for i, v := range params {
		k.put(i, v)
	}
	at := 0
	for range 200 {
		if at >= len(c.Body) {
			k.end = behind
			return k.outcome
		}
		k.steps = append(k.steps, at)
		at = k.step(at)
		if k.end != 0 {
			return k.outcome
		}
	}
	k.end = running
	return k.outcome
}

func (k *carrier) get(cell int) int { return k.kept[k.places[cell]] }

func (k *carrier) put(cell, v int) { k.kept[k.places[cell]] = v }

// step carries an instruction out, and tells which one comes next.
func (k *carrier) step(at int) int {
	x := k.c.Body[at]
	switch x.Op {
	case api.IrReturn:
		if k.end = returned; x.A >= 0 {
			k.v = k.get(x.A)
		}
	case api.IrStop:
		k.end = x.N
	case api.IrJump:
		_, at := standing(k.c.Body, x.N)
		return at
	case api.IrIf, api.IrUnless:
		if (k.get(x.A) != 0) == (x.Op == api.IrIf) {
			_, at := standing(k.c.Body, x.N)
			return at
		}
	case api.IrStore:
		k.mems[x.M][(k.get(x.A)+x.N)&15] = k.get(x.B) & (1<<(8*x.C-1) - 1)
	case api.IrSet:
		k.globals[x.N] = k.get(x.A)
	case api.IrArg:
		k.args[x.N] = k.get(x.A)
	case api.IrCall:
		k.told = append(append(k.told, x.N), k.args[:]...)
		k.call(k.kept)
		if x.Dst >= 0 {
			k.put(x.Dst, k.args[0]-3*k.args[1]+5*len(k.told))
		}
	default:
		if _, does := saying(x.Op); does {
			k.put(x.Dst, k.made(x))
		}
	}
	return at + 1
}

// made is what x writes into its cell.
func (k *carrier) made(x api.Ir) (v int) {
	switch x.Op {
	case api.IrConst:
		v = x.N
	case api.IrMove:
		v = k.get(x.A)
	case api.IrOp:
		v, k.end = word.Eval(x.N, k.get(x.A), k.get(x.B))
	case api.IrSelect:
		if v = k.get(x.A); k.get(x.C) == 0 {
			v = k.get(x.B)
		}
	case api.IrLoad:
		v = k.mems[x.M][(k.get(x.A)+x.N)&15] & (1<<(8*x.C-1) - 1)
	case api.IrGet:
		v = k.globals[x.N]
	}
	return v
}

func alike(a, b outcome) bool {
	return slices.Equal(a.told, b.told) && a.globals == b.globals && a.mems == b.mems && a.v == b.v && a.end == b.end && slices.Equal(a.steps, b.steps)
}

// begun is c, with each cell that is no parameter written ahead of all else, if it is needed from the beginning on.
func begun(r *rand.Rand, c api.Code) api.Code {
	if len(c.Body) == 0 {
		return c
	}
	k := reckoned(c)
	for cell, needed := range k.ahead[0] {
		if needed && cell >= c.Params {
			c.Body = slices.Insert(c.Body, 0, set(cell, pick(r, 0, 1, r.IntN(9), int(r.Uint64()))))
		}
	}
	return c
}

// holdCarried carries c out over cells of their own, and over its places.
func holdCarried(t *testing.T, r *rand.Rand, c api.Code) outcome {
	t.Helper()
	l, e := alloc.Alloc(c)
	if e != api.OK {
		t.Fatalf("%s: %d", told(c), e)
	}
	params := make([]int, c.Params)
	for i := range params {
		params[i] = pick(r, 0, 1, r.IntN(9), int(r.Uint64()))
	}
	spoils := func(kept map[int]int) {
		for register := range 6 {
			kept[register] = pick(r, 0, 1, int(r.Uint64()))
		}
	}
	want := carried(c, run(0, c.Cells), params, func(map[int]int) {})
	if o := carried(c, l, params, spoils); !alike(o, want) {
		t.Fatalf("%s: over %v: %+v; want %+v", told(c), l, o, want)
	}
	return want
}

func TestCodesOverTheirPlaces(t *testing.T) {
	r := rand.New(rand.NewPCG(17, 5))
	ends := map[int]int{}
	told, long := 0, 0
	for i := range 20000 {
		most, longest := 8, 40
		if i%100 == 0 {
			most, longest = 60, 300
		}
		o := holdCarried(t, r, begun(r, someCode(r, most, longest)))
		ends[o.end]++
		if len(o.told) > 0 {
			told++
		}
		if len(o.steps) > 20 {
			long++
		}
	}
	for _, end := range []int{returned, behind, running, api.TrapStop, api.TrapZero} {
		if ends[end] < 100 {
			t.Errorf("codes that end by %d: %d", end, ends[end])
		}
	}
	if told < 1000 || long < 2000 {
		t.Errorf("%d codes tell the host something, %d go a long way", told, long)
	}
}

// TestLoweredFunctionsOverTheirPlaces: they write their cells ahead of reading them themselves.
func TestLoweredFunctionsOverTheirPlaces(t *testing.T) {
	r := rand.New(rand.NewPCG(17, 6))
	in := func(op, n int) api.Instr { return api.Instr{Op: op, N: n} }
	get0, get1, end := in(api.LocalGet, 0), in(api.LocalGet, 1), in(api.End, 0)
	bodies := [][]api.Instr{
		{get0, end},
		{get0, in(api.Call, 0), get0, in(api.Call, 0), in(api.I64Sub, 0), get1, in(api.I64Add, 0), end},
		{get0, get0, get0, get0, get0, get0, get0, get0, in(api.I64Sub, 0), in(api.I64Sub, 0), in(api.I64Sub, 0), in(api.I64Sub, 0), in(api.I64Sub, 0), in(api.I64Sub, 0), in(api.Call, 0), in(api.I64Sub, 0), end},
		{in(api.Loop, 0), get0, get1, in(api.Call, 0), in(api.I64Sub, 0), in(api.LocalTee, 1), in(api.I64Const, 7), in(api.I64And, 0), in(api.I64Eqz, 0), in(api.BrIf, 0), end, get1, end},
		{get0, in(api.I64Eqz, 0), {Op: api.If, M: 1 + api.I64}, get1, in(api.Else, 0), get0, in(api.Call, 0), in(api.LocalTee, 1), get0, in(api.I64Sub, 0), end, get1, in(api.I64Xor, 0), end},
	}
	for _, body := range bodies {
		c := lowered(t, body...)
		for range 50 {
			holdCarried(t, r, c)
		}
		l, _ := alloc.Alloc(c)
		holdApart(t, c, l)
	}
}
