package rsem_test

import (
	"math"
	"slices"
	"strconv"
	"strings"
	"testing"

	"oubliette/api"
	"oubliette/rsem"
	"oubliette/word"
)

// P15.1: what is refused.

// holdRefused holds that Run tells that error.
func holdRefused(t *testing.T, m api.Module, x api.Script, want api.Errno) {
	t.Helper()
	o, e := rsem.Run(m, x)
	if e != want {
		t.Errorf("Run = %d of %v; want %d", e, x, want)
	}
	if !alike(o, api.Outcome{}) {
		t.Errorf("Run beside an error: %+v", o)
	}
}

func TestArguments(t *testing.T) {
	m := alone([]int{api.I32, api.I64, api.S32, api.S64}, nil, "End")
	narrow := []int{0, 1, 1<<31 - 1, 1 << 31, 1<<32 - 1}
	for _, a := range narrow {
		for _, b := range append(outsides(), narrow...) {
			x := api.Script{Args: []int{a, b, a, b}, Fuel: 1}
			if o := ran(t, m, x); o.Trap != 0 || o.Steps != 1 {
				t.Errorf("of %v: %+v", x, o)
			}
		}
	}
	for _, v := range outsides() {
		holdRefused(t, m, api.Script{Args: []int{v, 0, 0, 0}, Fuel: 1}, api.ErrScript)
		holdRefused(t, m, api.Script{Args: []int{0, 0, v, 0}, Fuel: 1}, api.ErrScript)
		holdRefused(t, m, api.Script{Args: []int{0, v, v, v}, Fuel: 1}, api.ErrScript)
	}
	for many := range 5 {
		m := alone(slices.Repeat(one(api.I64), many), nil, "End")
		for given := range 8 {
			x := api.Script{Args: make([]int, given), Fuel: 1}
			if given == many {
				ran(t, m, x)
				continue
			}
			holdRefused(t, m, x, api.ErrScript)
		}
	}
}

func TestFunctionsThatMayBeRun(t *testing.T) {
	m := world(nil, "End")
	ran(t, m, api.Script{Func: 0, Args: []int{1, 2}})
	ran(t, m, api.Script{Func: 1, Args: []int{1, 2, 3, 4}})
	ran(t, m, api.Script{Func: 4})
	for _, f := range append(outsides(), -2, -3, 5, 6, 7, 8, 1<<32+4) {
		for _, args := range [][]int{nil, {1}, {1, 2}, {1, 2, 3, 4}} {
			holdRefused(t, m, api.Script{Func: f, Args: args, Fuel: 10}, api.ErrScript)
		}
	}
	holdRefused(t, api.Module{}, api.Script{}, api.ErrScript)
	// Host functions are none that could be run.
	holdRefused(t, api.Module{Sigs: []api.Sig{{}}, Imports: []int{0}}, api.Script{Fuel: 10}, api.ErrScript)
}

func TestFuel(t *testing.T) {
	m := alone(nil, nil, "End")
	for _, fuel := range []int{1, 1 << 32, math.MaxInt} {
		if o := ran(t, m, api.Script{Fuel: fuel}); !alike(o, api.Outcome{Steps: 1}) {
			t.Errorf("of fuel %d: %+v", fuel, o)
		}
	}
	if o := ran(t, m, api.Script{}); !alike(o, api.Outcome{Trap: api.TrapRunning}) {
		t.Errorf("of no fuel: %+v", o)
	}
	for _, fuel := range []int{-1, -2, -1 << 32, math.MinInt + 1, math.MinInt} {
		holdRefused(t, m, api.Script{Fuel: fuel}, api.ErrScript)
	}
}

func TestAModuleThatIsNotValid(t *testing.T) {
	noSig := world(nil, "End")
	noSig.Imports[1] = 6
	beyond := world(nil, "End")
	beyond.Data[0].At = 1
	for name, m := range map[string]api.Module{
		"a value too few":           alone(nil, one(api.I32), "End"),
		"a value too many":          alone(nil, nil, "I32Const 1, End"),
		"a branch by a secret":      alone(one(api.S32), nil, "LocalGet 0, If, End, End"),
		"a local that is not there": alone(nil, nil, "LocalGet 0, Drop, End"),
		"no End":                    alone(nil, nil, "Nop"),
		"too deep":                  alone(nil, nil, strings.Repeat("Block, ", 9)+strings.Repeat("End, ", 9)+"End"),
		"too long":                  alone(nil, nil, strings.Repeat("Nop, ", 200)+"End"),
		"no such signature":         noSig,
		"a datum beyond its memory": beyond,
	} {
		t.Run(name, func(t *testing.T) {
			args := make([]int, len(m.Sigs[0].Params))
			holdRefused(t, m, api.Script{Args: args, Fuel: 100}, api.ErrInvalid)
			// This is asked ahead of the script.
			holdRefused(t, m, api.Script{Func: -1, Args: make([]int, 9), Fuel: -1}, api.ErrInvalid)
		})
	}
}

// P15.1: numbers, locals, globals.

func TestEveryNumber(t *testing.T) {
	some := []int{0, 1, 2, 31, 33, 64, 1<<31 - 1, 1 << 31, 1<<32 - 1}
	asked := 0
	for name, op := range ops() {
		many, from, to, ok := word.Arity(op)
		if !ok {
			continue
		}
		asked++
		// The first local is the first value.
		m := alone(slices.Repeat(one(from), many), one(to), strings.Repeat("LocalGet 0, ", many)+name+", End")
		if many == 2 {
			m.Funcs[0].Body[1].N = 1
		}
		values := some
		if from == api.I64 {
			values = append(outsides(), some...)
		}
		for _, a := range values {
			for _, b := range values {
				v, trap := word.Eval(op, a, b)
				steps := many + 2
				if trap != 0 {
					steps-- // the IrReturn is not carried out any more
				}
				o := ran(t, m, api.Script{Args: []int{a, b}[:many], Fuel: 10})
				if !alike(o, api.Outcome{V: v, Trap: trap, Steps: steps}) {
					t.Fatalf("%s of %x, %x: %+v; want %x, %d", name, a, b, o, v, trap)
				}
			}
		}
	}
	if asked != 11+11+15+15+3 {
		t.Error("numbers that were asked:", asked)
	}
}

func TestNumbersInTurn(t *testing.T) {
	holdBody(t, one(api.I32), "I32Const 2, I32Const 3, I32Sub, End", 1<<32-1, 0, 4)
	holdBody(t, one(api.I64), "LocalGet 1, I64Const 2, I64DivS, End", -4, 0, 4)
	holdBody(t, one(api.I64), "LocalGet 0, I64ExtendS, LocalGet 1, I64Sub, End", 16, 0, 5)
	holdBody(t, one(api.I32), "I32Const 5, I32Const 0, I32DivS, Drop, I32Const 1, End", 0, api.TrapZero, 3)
	holdBody(t, nil, "I64Const 5, I64Const 0, I64RemU, Drop, End", 0, api.TrapZero, 3)
	holdBody(t, nil, "I32Const -2147483648, I32Const -1, I32DivS, Drop, End", 0, api.TrapOver, 3)
	holdBody(t, nil, "I64Const -9223372036854775808, I64Const -1, I64DivS, Drop, End", 0, api.TrapOver, 3)
	holdBody(t, one(api.I32), "I32Const -2147483648, I32Const -1, I32RemS, End", 0, 0, 4)
}

func TestConstants(t *testing.T) {
	for _, n := range []int{0, 1, -1, 77, -1 << 31, -1<<31 + 1, 1<<31 - 1} {
		holdBody(t, one(api.I32), "I32Const "+strconv.Itoa(n)+", End", int(uint32(n)), 0, 2)
		holdBody(t, one(api.S32), "I32Const "+strconv.Itoa(n)+", End", int(uint32(n)), 0, 2)
	}
	for _, n := range append(outsides(), 0, 1, 77) {
		holdBody(t, one(api.I64), "I64Const "+strconv.Itoa(n)+", End", n, 0, 2)
	}
}

func TestLocals(t *testing.T) {
	holdBody(t, one(api.I32), "LocalGet 0, End", 7, 0, 2)
	holdBody(t, one(api.I64), "LocalGet 1, End", -9, 0, 2)
	holdBody(t, one(api.S32), "LocalGet 2, End", 0, 0, 2)
	holdBody(t, one(api.S64), "LocalGet 3, End", 0, 0, 2)
	holdBody(t, one(api.I32), "I32Const 5, LocalSet 0, LocalGet 0, End", 5, 0, 4)
	holdBody(t, one(api.I32), "LocalGet 0, I32Const 5, LocalTee 0, LocalGet 0, I32Add, I32Add, End", 17, 0, 7)
	holdBody(t, one(api.S32), "I32Const 4, LocalSet 2, I32Const 5, LocalSet 0, LocalGet 2, End", 4, 0, 6)
}

func TestGlobals(t *testing.T) {
	holdBody(t, one(api.I32), "GlobalGet 0, End", 1<<32-5, 0, 2)
	holdBody(t, one(api.S32), "GlobalGet 1, End", 6, 0, 2)
	holdBody(t, one(api.I64), "GlobalGet 2, End", -7, 0, 2)
	holdBody(t, one(api.S64), "GlobalGet 3, End", 8, 0, 2)
	m := world(one(api.I32), "I32Const -1, GlobalSet 0, I32Const 3, GlobalSet 1, GlobalGet 0, I64Const -1, GlobalSet 2, LocalGet 1, GlobalSet 3, End")
	want := untouched(m)
	want.V, want.Steps, want.Globals = 1<<32-1, worldLocals+10, []int{1<<32 - 1, 3, -1, -9}
	holdRun(t, m, api.Script{Args: []int{7, -9}}, want)
}

func TestWhatTakesNoStep(t *testing.T) {
	holdBody(t, nil, "End", 0, 0, 1)
	holdBody(t, nil, "Nop, Nop, End", 0, 0, 1)
	holdBody(t, one(api.S32), "LocalGet 0, Classify, Nop, End", 7, 0, 2)
	holdBody(t, one(api.I64), "GlobalGet 3, Declassify, End", 8, 0, 2)
	holdBody(t, one(api.I32), "I32Const 1, I32Const 2, Drop, I64Const 3, Drop, End", 1, 0, 4)
	holdBody(t, nil, "LocalGet 0, Drop, End", 0, 0, 2)
}

func TestSelect(t *testing.T) {
	for by, v := range map[int]int{0: 22, 1: 11, -1: 11, 2: 11, -1 << 31: 11} {
		n := strconv.Itoa(by)
		holdBody(t, one(api.I32), "I32Const 11, I32Const 22, I32Const "+n+", Select, End", v, 0, 5)
		holdBody(t, one(api.S32), "I32Const 11, I32Const 22, I32Const "+n+", Classify, Select, End", v, 0, 5)
		holdBody(t, one(api.I64), "I64Const -3, I64Const 11, I64Const 22, I32Const "+n+", Select, I64Add, End", v-3, 0, 7)
	}
}

// P15.1: memories.

func TestLoads(t *testing.T) {
	const low, high = 0x04030201, 0x88878685
	holdBody(t, one(api.I32), "I32Const 0, I32Load 0 0, End", low, 0, 3)
	holdBody(t, one(api.I32), "I32Const 1, I32Load 0 3, End", high, 0, 3)
	holdBody(t, one(api.I64), "I32Const 0, I64Load 0 0, End", low|(high-1<<32)<<32, 0, 3)
	holdBody(t, one(api.S32), "I32Const 0, I32Load 1 0, End", 's'<<16|'e'<<24, 0, 3)
	holdBody(t, one(api.S64), "I32Const 2, I64Load 1 4, End", 'e'|'t'<<8, 0, 3)
	holdBody(t, one(api.S64), "I32Const 8, I64Load 1 0, End", 0, 0, 3)
	for _, s := range []string{
		"I32Const 5, I32Load 0 0", "I32Const 0, I32Load 0 5", "I32Const -1, I32Load 0 1", "I32Const -1, I32Load 0 4294967295", "I32Const -2147483648, I32Load 0 2147483648",
		"I32Const 1, I64Load 0 0", "I32Const 0, I64Load 0 1", "I32Const -8, I64Load 0 8", "I32Const 13, I32Load 1 0", "I32Const 9, I64Load 1 0", "I32Const 4, I64Load 1 5",
	} {
		holdBody(t, nil, s+", Drop, End", 0, api.TrapMem, 2)
	}
}

func TestStores(t *testing.T) {
	const public, secret = "\x01\x02\x03\x04\x85\x86\x87\x88", "\x00\x00secret\x00\x00\x00\x00\x00\x00\x00\x00"
	for s, mems := range map[string][2]string{
		"I32Const 0, I32Const 1684234849, I32Store 0 0":          {"abcd\x85\x86\x87\x88", secret},
		"I32Const 1, I32Const 1684234849, I32Store 0 2":          {"\x01\x02\x03abcd\x88", secret},
		"I32Const 4, I32Const 1684234849, I32Store 0 0":          {"\x01\x02\x03\x04abcd", secret},
		"I32Const 0, I64Const -2, I64Store 0 0":                  {"\xfe\xff\xff\xff\xff\xff\xff\xff", secret},
		"I32Const 12, I32Const -2, I32Store 1 0":                 {public, "\x00\x00secret\x00\x00\x00\x00\xfe\xff\xff\xff"},
		"I32Const 0, I64Const 513, I64Store 1 8":                 {public, "\x00\x00secret\x01\x02\x00\x00\x00\x00\x00\x00"},
		"I32Const 0, I32Const 0, I64Load 0 0, I64Store 1 8":      {public, "\x00\x00secret" + public},
		"I32Const 0, I32Const 12, I32Load 1 0, I32Store 1 4":     {public, "\x00\x00se\x00\x00\x00\x00\x00\x00\x00\x00\x00\x00\x00\x00"},
		"I32Const 2, LocalGet 0, I32Store 0 0, LocalGet 0, Drop": {"\x01\x02\x07\x00\x00\x00\x87\x88", secret},
	} {
		m := world(nil, s+", End")
		want := untouched(m)
		want.Mems, want.Steps = mems, worldLocals+strings.Count(s, ",")+2-strings.Count(s, "Drop")
		holdRun(t, m, api.Script{Args: []int{7, -9}}, want)
	}
	for _, s := range []string{
		"I32Const 5, I32Const 1, I32Store 0 0", "I32Const 0, I32Const 1, I32Store 0 5", "I32Const -1, I32Const 1, I32Store 0 1", "I32Const -1, I32Const 1, I32Store 0 4294967295",
		"I32Const 1, I64Const 1, I64Store 0 0", "I32Const 0, I64Const 1, I64Store 0 1", "I32Const 13, I32Const 1, I32Store 1 0", "I32Const 9, I64Const 1, I64Store 1 0",
	} {
		holdBody(t, nil, s+", End", 0, api.TrapMem, 3)
	}
}

func TestTheGreatestMemory(t *testing.T) {
	m := alone(one(api.I32), one(api.S64), "LocalGet 0, I64Const -3, I64Store 1 0, LocalGet 0, I64Load 1 0, End")
	m.Mems[1] = api.MaxMem
	nought := strings.Repeat("\x00", 4096)
	holdRun(t, m, api.Script{Args: one(4088)}, api.Outcome{V: -3, Steps: 6, Mems: [2]string{"", nought[:4088] + "\xfd\xff\xff\xff\xff\xff\xff\xff"}})
	holdRun(t, m, api.Script{Args: one(4089)}, api.Outcome{Trap: api.TrapMem, Steps: 3, Mems: [2]string{"", nought}})
}

// P15.1: labels and jumps, each of them a step.

func TestBlocks(t *testing.T) {
	holdBody(t, nil, "Block, End, Loop, End, End", 0, 0, 3)
	holdBody(t, one(api.I32), "Block I32, I32Const 5, End, End", 5, 0, 3)
	holdBody(t, one(api.I64), "Loop I64, I64Const -5, End, End", -5, 0, 3)
	holdBody(t, one(api.I32), strings.Repeat("Block I32, ", 8)+"I32Const 3, "+strings.Repeat("End, ", 8)+"End", 3, 0, 10)
}

func TestIf(t *testing.T) {
	for _, by := range []string{"I32Const 1", "I32Const -1", "I32Const -2147483648", "LocalGet 0"} {
		holdBody(t, one(api.I32), by+", If I32, I32Const 1, Else, I32Const 2, End, End", 1, 0, 6)
		holdBody(t, nil, by+", If, Nop, End, End", 0, 0, 4)
		holdBody(t, nil, by+", If, Else, Unreachable, End, End", 0, 0, 5)
		holdBody(t, nil, by+", If, Unreachable, End, End", 0, api.TrapStop, 3)
	}
	holdBody(t, one(api.I32), "I32Const 0, If I32, I32Const 1, Else, I32Const 2, End, End", 2, 0, 6)
	holdBody(t, nil, "I32Const 0, If, Unreachable, End, End", 0, 0, 4)
	holdBody(t, nil, "I32Const 0, If, Unreachable, Else, End, End", 0, 0, 5)
	holdBody(t, nil, "I32Const 0, If, Nop, Else, Unreachable, End, End", 0, api.TrapStop, 4)
	holdBody(t, one(api.I32), "I32Const 30, I32Const 0, If I32, I32Const 5, Else, I32Const 6, End, I32Add, End", 36, 0, 8)
}

func TestBranches(t *testing.T) {
	holdBody(t, nil, "Block, Br 0, Unreachable, End, End", 0, 0, 3)
	holdBody(t, one(api.I32), "Block I32, I32Const 1, I64Const 2, I32Const 3, Br 0, End, End", 3, 0, 7)
	holdBody(t, one(api.I32), "I32Const 40, Block, I32Const 1, I32Const 2, Br 0, End, End", 40, 0, 6)
	holdBody(t, one(api.I32), "I32Const 40, Block I32, I32Const 1, I32Const 2, Br 0, End, I32Add, End", 42, 0, 8)
	holdBody(t, one(api.I32), "I32Const 5, I32Const 6, Br 0, End", 6, 0, 3)
	holdBody(t, one(api.I32), "I32Const 100, Block I32, I32Const 1, Block, I32Const 2, Loop I64, I32Const 3, I32Const 4, Br 2, End, Drop, Drop, End, End, I32Add, End", 104, 0, 11)
}

func TestBranchesIf(t *testing.T) {
	for _, by := range []string{"1", "-1", "-2147483648"} {
		holdBody(t, one(api.I32), "I32Const 40, Block I32, I32Const 1, I32Const 2, I32Const "+by+", BrIf 0, I32Add, End, I32Add, End", 42, 0, 10)
		holdBody(t, nil, "Block, I32Const "+by+", BrIf 0, Unreachable, End, End", 0, 0, 4)
		holdBody(t, one(api.I32), "I32Const 4, I32Const "+by+", BrIf 0, I32Const 1, I32Add, End", 4, 0, 4)
	}
	holdBody(t, one(api.I32), "I32Const 40, Block I32, I32Const 1, I32Const 2, I32Const 0, BrIf 0, I32Add, End, I32Add, End", 43, 0, 10)
	holdBody(t, nil, "Block, I32Const 0, BrIf 0, Unreachable, End, End", 0, api.TrapStop, 3)
	holdBody(t, one(api.I32), "I32Const 4, I32Const 0, BrIf 0, I32Const 1, I32Add, End", 5, 0, 7)
}

func TestBranchesBack(t *testing.T) {
	holdBody(t, one(api.I32), "I32Const 9, Loop, I32Const 55, LocalGet 0, I32Const 1, I32Sub, LocalTee 0, BrIf 0, Drop, End, End", 9, 0, 1+7*7+1)
	holdBody(t, one(api.I32), "Loop I32, I32Const 8, LocalGet 0, I32Const 1, I32Sub, LocalTee 0, BrIf 0, End, LocalGet 0, I32Sub, End", 8, 0, 7*7+3)
}

func TestReturn(t *testing.T) {
	holdBody(t, nil, "Return, End", 0, 0, 1)
	holdBody(t, nil, "I32Const 5, I64Const 6, Return, Unreachable, End", 0, 0, 3)
	holdBody(t, one(api.I32), "I32Const 5, I64Const 6, I32Const 7, Return, End", 7, 0, 4)
	holdBody(t, one(api.I64), "I32Const 1, If, I64Const -1, Return, End, I64Const 1, End", -1, 0, 4)
	holdBody(t, one(api.I32), "Unreachable, End", 0, api.TrapStop, 1)
	holdBody(t, one(api.I32), "Block I32, Unreachable, End, End", 0, api.TrapStop, 1)
}

func TestARunWithoutEnd(t *testing.T) {
	for _, s := range []string{"Loop, Br 0, End, I32Const 1, End", "Loop I32, Br 0, End, End", "Loop, I32Const 1, BrIf 0, End, I32Const 1, End", "Loop I32, Block, I32Const 3, Br 1, End, I32Const 1, End, End"} {
		m := alone(nil, one(api.I32), s)
		for _, fuel := range []int{0, 1, 2, 3, 100, 100000} {
			x := api.Script{Fuel: fuel}
			if o := ran(t, m, x); !alike(o, api.Outcome{Trap: api.TrapRunning, Steps: fuel}) {
				t.Errorf("%s with fuel %d: %+v", s, fuel, o)
			}
		}
	}
}

func TestEachTypeIsBrought(t *testing.T) {
	for _, v := range append(outsides(), 0, 1, 1<<32-1) {
		for _, wide := range []int{api.I64, api.S64} {
			holdRun(t, alone(one(wide), one(wide), "LocalGet 0, End"), api.Script{Args: one(v)}, api.Outcome{V: v, Steps: 2})
		}
	}
	for _, v := range []int{0, 1, 1 << 31, 1<<32 - 1} {
		for _, narrow := range []int{api.I32, api.S32} {
			holdRun(t, alone(one(narrow), one(narrow), "LocalGet 0, End"), api.Script{Args: one(v)}, api.Outcome{V: v, Steps: 2})
		}
	}
}
