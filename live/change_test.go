package live_test

import (
	"math/rand/v2"
	"slices"
	"testing"

	"oubliette/api"
	"oubliette/live"
	"oubliette/rsem"
	"oubliette/word"
)

// P16.4

// outcome is all that comes out of a code: what it tells the host, what it leaves in globals and memories, what it brings, how it ends.
type outcome struct {
	told    []int
	globals [4]int
	mems    [2][16]int
	v, end  int
	places  []int
}

// How a code ends, beside its traps.
const (
	returned = 100 + iota
	behind
	running
)

// carrier carries a code out over cells, memories and globals, in a way that is like a machine's, but always goes on.
type carrier struct {
	outcome
	c       api.Code
	cells   []int
	args    [4]int
	changes func(at int, behind bool, cells []int)
}

// carried is what comes out of c, if its cells are changed in that way ahead of each instruction, and behind it.
func carried(c api.Code, cells []int, changes func(at int, behind bool, cells []int)) outcome {
	k := &carrier{c: c, cells: slices.Clone(cells), changes: changes}
	at := 0
	for range 200 {
		if at >= len(c.Body) {
			k.end = behind
			return k.outcome
		}
		k.places = append(k.places, at)
		k.changes(at, false, k.cells)
		next := k.step(at)
		if k.end != 0 {
			return k.outcome
		}
		k.changes(at, true, k.cells)
		at = next
	}
	k.end = running
	return k.outcome
}

// step carries an instruction out, and tells which one comes next.
func (k *carrier) step(at int) int {
	x := k.c.Body[at]
	switch x.Op {
	case api.IrReturn:
		if k.end = returned; x.A >= 0 {
			k.v = k.cells[x.A]
		}
	case api.IrStop:
		k.end = x.N
	case api.IrJump:
		_, at := standing(k.c.Body, x.N)
		return at
	case api.IrIf, api.IrUnless:
		if (k.cells[x.A] != 0) == (x.Op == api.IrIf) {
			_, at := standing(k.c.Body, x.N)
			return at
		}
	case api.IrStore:
		k.mems[x.M][(k.cells[x.A]+x.N)&15] = k.cells[x.B] & (1<<(8*x.C-1) - 1)
	case api.IrSet:
		k.globals[x.N] = k.cells[x.A]
	case api.IrArg:
		k.args[x.N] = k.cells[x.A]
	case api.IrCall:
		k.told = append(append(k.told, x.N), k.args[:]...)
		if x.Dst >= 0 {
			k.cells[x.Dst] = k.args[0] - 3*k.args[1] + 5*len(k.told)
		}
	default:
		if _, does := saying(x.Op); does {
			k.cells[x.Dst] = k.made(x)
		}
	}
	return at + 1
}

// made is what x writes into its cell.
func (k *carrier) made(x api.Ir) (v int) {
	switch x.Op {
	case api.IrConst:
		v = x.N
	case api.IrMove:
		v = k.cells[x.A]
	case api.IrOp:
		v, k.end = word.Eval(x.N, k.cells[x.A], k.cells[x.B])
	case api.IrSelect:
		if v = k.cells[x.A]; k.cells[x.C] == 0 {
			v = k.cells[x.B]
		}
	case api.IrLoad:
		v = k.mems[x.M][(k.cells[x.A]+x.N)&15] & (1<<(8*x.C-1) - 1)
	case api.IrGet:
		v = k.globals[x.N]
	}
	return v
}

func alike(a, b outcome) bool {
	return slices.Equal(a.told, b.told) && a.globals == b.globals && a.mems == b.mems && a.v == b.v && a.end == b.end && slices.Equal(a.places, b.places)
}

// TestChangesWhereNothingIsLive: each cell that is not live is changed ahead of each instruction and behind it, and all that comes out stays.
func TestChangesWhereNothingIsLive(t *testing.T) {
	r := rand.New(rand.NewPCG(16, 4))
	ends := map[int]int{}
	changed, told, long := 0, 0, 0
	for range 20000 {
		c := someCode(r, 6, 30)
		ahead, _ := live.Ahead(c)
		after, _ := live.After(c)
		cells := make([]int, c.Cells)
		for k := range cells {
			cells[k] = pick(r, 0, 1, r.IntN(9), int(r.Uint64()))
		}
		change := func(at int, behind bool, cells []int) {
			set := ahead[at]
			if behind {
				set = after[at]
			}
			for k := range cells {
				if !has(set, k) {
					cells[k] = pick(r, 0, 1, r.IntN(9), int(r.Uint64()))
					changed++
				}
			}
		}
		want := carried(c, cells, func(int, bool, []int) {})
		if o := carried(c, cells, change); !alike(o, want) {
			t.Fatalf("%+v over %v: %+v; want %+v", c, cells, o, want)
		}
		ends[want.end]++
		if len(want.told) > 0 {
			told++
		}
		if len(want.places) > 12 {
			long++
		}
	}
	for _, end := range []int{returned, behind, running, api.TrapStop, api.TrapZero} {
		if ends[end] < 100 {
			t.Errorf("codes that end by %d: %d", end, ends[end])
		}
	}
	if changed < 100000 || told < 1000 || long < 2000 {
		t.Errorf("%d changes, %d codes that tell the host something, %d long ways", changed, told, long)
	}
}

// TestChangesByAnInstruction: of codes that may be carried out alone. What is laid in writes a cell that is not live there.
func TestChangesByAnInstruction(t *testing.T) {
	r := rand.New(rand.NewPCG(16, 5))
	laid, ended := 0, 0
	for range 20000 {
		c := someCode(r, 5, 16)
		cells := make([]int, c.Cells)
		for k := range cells {
			cells[k] = pick(r, 0, 1, r.IntN(9), int(r.Uint64()))
		}
		_, v, trap, e := rsem.Exec(c, cells)
		if e != api.OK || trap == api.TrapRunning {
			continue
		}
		ended++
		ahead, _ := live.Ahead(c)
		for place, set := range ahead {
			for k := range cells {
				if has(set, k) {
					continue
				}
				laid++
				more := c
				more.Body = slices.Insert(slices.Clone(c.Body), place, api.Ir{Op: api.IrConst, Dst: k, N: pick(r, 0, 1, -1, 77)})
				_, v1, trap1, e := rsem.Exec(more, cells)
				if e != api.OK || v1 != v || trap1 != trap {
					t.Fatalf("%v over %v: %d, %d; with %v: %d, %d, %d", c.Body, cells, v, trap, more.Body, v1, trap1, e)
				}
			}
		}
	}
	if ended < 1000 || laid < 10000 {
		t.Errorf("%d codes ended, %d instructions were laid in", ended, laid)
	}
}
