package rir_test

import (
	"math/rand/v2"
	"slices"
	"testing"

	"oubliette/api"
	"oubliette/linmem"
	"oubliette/rir"
	"oubliette/valid"
	"oubliette/word"
	"oubliette/wsem"
)

// carrier carries codes out, as far as that is needed to hold them against the module that they were made of: of that a code should say nothing else.
type carrier struct {
	m       api.Module
	codes   []api.Code
	labels  []map[int]int
	args    [api.MaxParams]int
	answers []api.Answer
	depth   int
	steps   int
	out     api.Outcome
}

func newCarrier(t *testing.T, m api.Module, answers []api.Answer) *carrier {
	k := &carrier{m: m, answers: answers}
	for f := range m.Funcs {
		c, _ := rir.Lower(m, f)
		k.codes, k.labels = append(k.codes, c), append(k.labels, places(t, c))
	}
	for _, g := range m.Globals {
		k.out.Globals = append(k.out.Globals, g.V)
	}
	for mem := range m.Mems {
		k.out.Mems[mem] = linmem.New(m, mem)
	}
	return k
}

// must ends the run by a trap, if something does not hold.
func must(holds bool, trap int) {
	if !holds {
		panic(trap)
	}
}

// whole is the outcome of a run, but for its steps.
func (k *carrier) whole(f int, args []int) (o api.Outcome) {
	defer func() {
		if p := recover(); p != nil {
			o = k.out
			o.Trap = p.(int)
		}
	}()
	copy(k.args[:], args)
	v := k.call(f)
	k.out.V = v
	return k.out
}

// call carries function f out.
func (k *carrier) call(f int) int {
	must(k.depth < api.MaxDepth, api.TrapDepth)
	k.depth++
	c := k.codes[f]
	cells := make([]int, c.Cells)
	// What was not written has something in it that changes whatever hangs on it.
	for i := range cells {
		cells[i] = 0x5a5a5a5a
	}
	copy(cells, k.args[:c.Params])
	for at := 0; ; at++ {
		k.steps++
		must(k.steps < 1_000_000, api.TrapRunning)
		x := c.Body[at]
		switch x.Op {
		case api.IrReturn:
			k.depth--
			if x.A < 0 {
				return 0
			}
			return cells[x.A]
		case api.IrStop:
			panic(x.N)
		case api.IrJump:
			at = k.labels[f][x.N]
		case api.IrIf, api.IrUnless:
			if (cells[x.A] != 0) == (x.Op == api.IrIf) {
				at = k.labels[f][x.N]
			}
		case api.IrCall:
			if v := k.callOut(x.N); x.Dst >= 0 {
				cells[x.Dst] = v
			}
		default:
			k.plain(x, cells)
		}
	}
}

func (k *carrier) callOut(n int) int {
	sig, host, _, _ := valid.Callee(k.m, n)
	if !host {
		return k.call(n - len(k.m.Imports))
	}
	k.out.Calls = append(k.out.Calls, api.HostCall{Func: n, Args: slices.Clone(k.args[:len(sig.Params)])})
	must(len(k.answers) > 0 && len(k.out.Calls) <= api.MaxHost, api.TrapScript)
	a := k.answers[0]
	k.answers = k.answers[1:]
	must(len(sig.Results) > 0 || a.V == 0, api.TrapScript)
	return a.V
}

func (k *carrier) plain(x api.Ir, cells []int) {
	ok, trap := true, 0
	switch x.Op {
	case api.IrConst:
		cells[x.Dst] = x.N
	case api.IrMove:
		cells[x.Dst] = cells[x.A]
	case api.IrOp:
		cells[x.Dst], trap = word.Eval(x.N, cells[x.A], cells[x.B])
	case api.IrSelect:
		by, a, b := cells[x.C], cells[x.A], cells[x.B]
		if by == 0 {
			a = b
		}
		cells[x.Dst] = a
	case api.IrLoad:
		cells[x.Dst], ok = linmem.Load(k.out.Mems[x.M], cells[x.A], x.N, x.C)
		must(ok, api.TrapMem)
	case api.IrStore:
		mem, ok := linmem.Store(k.out.Mems[x.M], cells[x.A], x.N, x.C, cells[x.B])
		must(ok, api.TrapMem)
		k.out.Mems[x.M] = mem
	case api.IrGet:
		cells[x.Dst] = k.out.Globals[x.N]
	case api.IrSet:
		k.out.Globals[x.N] = cells[x.A]
	case api.IrArg:
		k.args[x.N] = cells[x.A]
	}
	must(trap == 0, trap)
}

// TestWhatIsMadeDoesWhatItWasMadeOf: what the chapter says of the code is said here of what comes of it.
func TestWhatIsMadeDoesWhatItWasMadeOf(t *testing.T) {
	r := rand.New(rand.NewPCG(14, 5))
	var ends [api.TrapFault + 1]int
	for _, m := range grownModules(5, 120, 100) {
		for f := range m.Funcs {
			for range 4 {
				holdRun(t, r, m, f, &ends)
			}
		}
	}
	for _, trap := range []int{api.NoTrap, api.TrapStop, api.TrapZero, api.TrapMem, api.TrapScript, api.TrapRunning} {
		if ends[trap] == 0 {
			t.Errorf("no run ended by %d: %v", trap, ends)
		}
	}
}

// holdRun holds a run of m's function f, by chance, against that of its code, and counts how it ended.
func holdRun(t *testing.T, r *rand.Rand, m api.Module, f int, ends *[api.TrapFault + 1]int) {
	t.Helper()
	var args []int
	for _, of := range m.Sigs[m.Funcs[f].Sig].Params {
		args = append(args, word.Trim(of == api.I64 || of == api.S64, []int{0, 1, 2, -1, int(r.Uint64())}[r.IntN(5)]))
	}
	answers := make([]api.Answer, r.IntN(9))
	for i := range answers {
		answers[i].V = r.IntN(2) * r.IntN(2)
	}
	want, e := wsem.Run(m, api.Script{Func: f, Args: args, Answers: answers, Fuel: 3000})
	if e != api.OK {
		t.Fatalf("no run: %d", e)
	}
	ends[want.Trap]++
	if want.Trap == api.TrapRunning {
		return
	}
	o := newCarrier(t, m, answers).whole(f, args)
	calls := slices.EqualFunc(o.Calls, want.Calls, func(a, b api.HostCall) bool { return a.Func == b.Func && slices.Equal(a.Args, b.Args) })
	if o.Trap != want.Trap || o.V != want.V || o.Mems != want.Mems || !calls || !slices.Equal(o.Globals, want.Globals) {
		t.Fatalf("%v, function %d of %v: %+v; want %+v", m, f, args, o, want)
	}
}
