package wsem_test

import (
	"math"
	"slices"
	"strconv"
	"strings"
	"testing"

	"oubliette/api"
	"oubliette/word"
	"oubliette/wsem"
)

// holdRefused holds that both calls tell that error.
func holdRefused(t *testing.T, m api.Module, x api.Script, want api.Errno) {
	t.Helper()
	if e := wsem.Fits(m, x); e != want {
		t.Errorf("Fits = %d of %v; want %d", e, x, want)
	}
	o, e := wsem.Run(m, x)
	if e != want {
		t.Errorf("Run = %d of %v; want %d", e, x, want)
	}
	if !alike(o, api.Outcome{}) {
		t.Errorf("Run beside an error: %+v", o)
	}
}

// P9.1

func TestFitsOfArguments(t *testing.T) {
	m := alone([]int{api.I32, api.I64, api.S32, api.S64}, nil, "End")
	narrow := []int{0, 1, 1<<31 - 1, 1 << 31, 1<<32 - 1}
	for _, a := range narrow {
		for _, b := range append(outsides(), narrow...) {
			x := api.Script{Args: []int{a, b, a, b}, Fuel: 1}
			if o := ran(t, m, x); o.Trap != 0 || o.Steps != 1 {
				t.Errorf("of %v: %+v", x, o)
			}
		}
	}
	for _, v := range outsides() {
		holdRefused(t, m, api.Script{Args: []int{v, 0, 0, 0}, Fuel: 1}, api.ErrScript)
		holdRefused(t, m, api.Script{Args: []int{0, 0, v, 0}, Fuel: 1}, api.ErrScript)
		holdRefused(t, m, api.Script{Args: []int{0, v, v, v}, Fuel: 1}, api.ErrScript)
	}
}

func TestFitsOfHowManyArguments(t *testing.T) {
	for many := range 5 {
		m := alone(slices.Repeat(one(api.I64), many), nil, "End")
		for given := range 8 {
			x := api.Script{Args: make([]int, given), Fuel: 1}
			if given == many {
				ran(t, m, x)
				continue
			}
			holdRefused(t, m, x, api.ErrScript)
		}
	}
	ran(t, alone(nil, nil, "End"), api.Script{Args: nil})
	holdRefused(t, alone(nil, nil, "End"), api.Script{Args: make([]int, 100000)}, api.ErrScript)
}

func TestFitsOfTheFunction(t *testing.T) {
	m := world(nil, "End")
	ran(t, m, api.Script{Func: 0, Args: []int{1, 2}})
	ran(t, m, api.Script{Func: 1, Args: []int{1, 2, 3, 4}})
	ran(t, m, api.Script{Func: 4})
	for _, f := range append(outsides(), -2, -3, 5, 6, 7, 8, 1<<32+4) {
		for _, args := range [][]int{nil, {1}, {1, 2}, {1, 2, 3, 4}} {
			holdRefused(t, m, api.Script{Func: f, Args: args, Fuel: 10}, api.ErrScript)
		}
	}
	holdRefused(t, api.Module{}, api.Script{}, api.ErrScript)
	// Host functions are none that could be run.
	holdRefused(t, api.Module{Sigs: []api.Sig{{}}, Imports: []int{0}}, api.Script{Fuel: 10}, api.ErrScript)
}

func TestFitsOfFuel(t *testing.T) {
	m := alone(nil, nil, "End")
	for _, fuel := range []int{0, 1, 1 << 32, math.MaxInt} {
		ran(t, m, api.Script{Fuel: fuel})
	}
	for _, fuel := range []int{-1, -2, -1 << 32, math.MinInt + 1, math.MinInt} {
		holdRefused(t, m, api.Script{Fuel: fuel}, api.ErrScript)
	}
}

func TestFitsDoesNotAskTheAnswers(t *testing.T) {
	m := alone(nil, nil, "End")
	x := api.Script{Answers: []api.Answer{{V: math.MinInt, Writes: []api.Write{{Mem: -1, At: math.MinInt, Bytes: "a"}}}, {V: math.MaxInt}}, Fuel: 5}
	holdRun(t, m, x, api.Outcome{Steps: 1})
}

func TestAModuleThatIsNotValid(t *testing.T) {
	tooMany := alone(nil, nil, "End")
	tooMany.Funcs = slices.Repeat(tooMany.Funcs, api.MaxFuncs+1)
	noSig := world(nil, "End")
	noSig.Imports[1] = 6
	beyond := world(nil, "End")
	beyond.Data[0].At = 1
	for name, m := range map[string]api.Module{
		"a value too few":           alone(nil, one(api.I32), "End"),
		"a value too many":          alone(nil, nil, "I32Const 1, End"),
		"of another width":          alone(nil, one(api.I32), "I64Const 1, End"),
		"a branch by a secret":      alone(one(api.S32), nil, "LocalGet 0, If, End, End"),
		"a secret made public":      alone(one(api.S32), one(api.I32), "LocalGet 0, Declassify, End"),
		"a local that is not there": alone(nil, nil, "LocalGet 0, Drop, End"),
		"no such call":              alone(nil, nil, "Call 1, End"),
		"no memory":                 alone(nil, nil, "I32Const 0, I32Load 0 0, Drop, End"),
		"no End":                    alone(nil, nil, "Nop"),
		"too deep":                  alone(nil, nil, strings.Repeat("Block, ", 9)+strings.Repeat("End, ", 9)+"End"),
		"too high":                  alone(nil, nil, strings.Repeat("I32Const 1, ", 17)+"Return, End"),
		"too long":                  alone(nil, nil, strings.Repeat("Nop, ", 200)+"End"),
		"too many functions":        tooMany,
		"no such signature":         noSig,
		"a datum beyond its memory": beyond,
	} {
		t.Run(name, func(t *testing.T) {
			args := make([]int, len(m.Sigs[0].Params))
			holdRefused(t, m, api.Script{Args: args, Fuel: 100}, api.ErrInvalid)
			// This is asked ahead of the script.
			holdRefused(t, m, api.Script{Func: -1, Args: make([]int, 9), Fuel: -1}, api.ErrInvalid)
		})
	}
}

// P9.2: numbers, locals, globals.

func TestEveryNumber(t *testing.T) {
	some := []int{0, 1, 2, 3, 5, 31, 32, 33, 63, 64, 1<<31 - 1, 1 << 31, 1<<31 + 1, 1<<32 - 2, 1<<32 - 1}
	asked := 0
	for name, op := range ops() {
		many, from, to, ok := word.Arity(op)
		if !ok {
			continue
		}
		asked++
		// The first local is the first value.
		m := alone(slices.Repeat(one(from), many), one(to), strings.Repeat("LocalGet 0, ", many)+name+", End")
		if many == 2 {
			m.Funcs[0].Body[1].N = 1
		}
		values := some
		if from == api.I64 {
			values = append(outsides(), some...)
		}
		for _, a := range values {
			for _, b := range values {
				v, trap := word.Eval(op, a, b)
				steps := many + 2
				if trap != 0 {
					steps-- // the last End is not carried out any more
				}
				o := ran(t, m, api.Script{Args: []int{a, b}[:many], Fuel: 10})
				if !alike(o, api.Outcome{V: v, Trap: trap, Steps: steps}) {
					t.Fatalf("%s of %x, %x: %+v; want %x, %d", name, a, b, o, v, trap)
				}
			}
		}
	}
	if asked != 11+11+15+15+3 {
		t.Error("numbers that were asked:", asked)
	}
}

func TestTheOrderOfTwoValues(t *testing.T) {
	holdBody(t, one(api.I32), "I32Const 2, I32Const 3, I32Sub, End", 1<<32-1, 0, 4)
	holdBody(t, one(api.I32), "I32Const 20, I32Const 6, I32DivS, End", 3, 0, 4)
	holdBody(t, one(api.I64), "LocalGet 1, I64Const 2, I64DivS, End", -4, 0, 4)
	holdBody(t, one(api.I64), "LocalGet 0, I64ExtendS, LocalGet 1, I64Sub, End", 16, 0, 5)
	holdBody(t, one(api.I32), "I32Const 1, I64Const 0, I64Eqz, I32Shl, End", 2, 0, 5)
}

func TestConstants(t *testing.T) {
	for _, n := range []int{0, 1, -1, 77, -1 << 31, -1<<31 + 1, 1<<31 - 1} {
		holdBody(t, one(api.I32), "I32Const "+strconv.Itoa(n)+", End", int(uint32(n)), 0, 2)
		holdBody(t, one(api.S32), "I32Const "+strconv.Itoa(n)+", End", int(uint32(n)), 0, 2)
	}
	for _, n := range append(outsides(), 0, 1, 77) {
		holdBody(t, one(api.I64), "I64Const "+strconv.Itoa(n)+", End", n, 0, 2)
	}
}

func TestLocals(t *testing.T) {
	holdBody(t, one(api.I32), "LocalGet 0, End", 7, 0, 2)
	holdBody(t, one(api.I64), "LocalGet 1, End", -9, 0, 2)
	holdBody(t, one(api.S32), "LocalGet 2, End", 0, 0, 2)
	holdBody(t, one(api.S64), "LocalGet 3, End", 0, 0, 2)
	holdBody(t, one(api.I32), "I32Const 5, LocalSet 0, LocalGet 0, End", 5, 0, 4)
	holdBody(t, one(api.S64), "I64Const -5, LocalSet 3, LocalGet 1, LocalGet 3, I64Mul, End", 45, 0, 6)
	holdBody(t, one(api.I32), "LocalGet 0, I32Const 5, LocalTee 0, LocalGet 0, I32Add, I32Add, End", 17, 0, 7)
	holdBody(t, one(api.S32), "I32Const 4, LocalTee 2, LocalGet 2, I32Mul, End", 16, 0, 5)
	// One is not another.
	holdBody(t, one(api.S32), "I32Const 4, LocalSet 2, I32Const 5, LocalSet 0, LocalGet 2, End", 4, 0, 6)
}

func TestGlobals(t *testing.T) {
	holdBody(t, one(api.I32), "GlobalGet 0, End", 1<<32-5, 0, 2)
	holdBody(t, one(api.S32), "GlobalGet 1, End", 6, 0, 2)
	holdBody(t, one(api.I64), "GlobalGet 2, End", -7, 0, 2)
	holdBody(t, one(api.S64), "GlobalGet 3, End", 8, 0, 2)
	m := world(one(api.I32), "I32Const -1, GlobalSet 0, I32Const 3, GlobalSet 1, GlobalGet 0, I64Const -1, GlobalSet 2, LocalGet 1, GlobalSet 3, End")
	want := untouched(m)
	want.V, want.Steps, want.Globals = 1<<32-1, 10, []int{1<<32 - 1, 3, -1, -9}
	holdRun(t, m, api.Script{Args: []int{7, -9}}, want)
}

func TestWhatDoesNothing(t *testing.T) {
	holdBody(t, nil, "End", 0, 0, 1)
	holdBody(t, nil, "Nop, Nop, End", 0, 0, 3)
	holdBody(t, one(api.S32), "LocalGet 0, Classify, Nop, End", 7, 0, 4)
	holdBody(t, one(api.I64), "GlobalGet 3, Declassify, End", 8, 0, 3)
	holdBody(t, one(api.I64), "LocalGet 1, Classify, Classify, Declassify, Declassify, End", -9, 0, 6)
	holdBody(t, one(api.I32), "I32Const 1, I32Const 2, Drop, I64Const 3, Drop, End", 1, 0, 6)
}

func TestSelect(t *testing.T) {
	for by, v := range map[int]int{0: 22, 1: 11, -1: 11, 2: 11, -1 << 31: 11} {
		n := strconv.Itoa(by)
		holdBody(t, one(api.I32), "I32Const 11, I32Const 22, I32Const "+n+", Select, End", v, 0, 5)
		holdBody(t, one(api.S32), "I32Const 11, I32Const 22, I32Const "+n+", Classify, Select, End", v, 0, 6)
		holdBody(t, one(api.I64), "I64Const -3, I64Const 11, I64Const 22, I32Const "+n+", Select, I64Add, End", v-3, 0, 7)
	}
}

// P9.2: memories.

func TestLoads(t *testing.T) {
	const low, high = 0x04030201, 0x88878685
	holdBody(t, one(api.I32), "I32Const 0, I32Load 0 0, End", low, 0, 3)
	holdBody(t, one(api.I32), "I32Const 4, I32Load 0 0, End", high, 0, 3)
	holdBody(t, one(api.I32), "I32Const 1, I32Load 0 3, End", high, 0, 3)
	holdBody(t, one(api.I32), "I32Const 0, I32Load 0 4, End", high, 0, 3)
	holdBody(t, one(api.I64), "I32Const 0, I64Load 0 0, End", low|(high-1<<32)<<32, 0, 3)
	holdBody(t, one(api.S32), "I32Const 0, I32Load 1 0, End", 's'<<16|'e'<<24, 0, 3)
	holdBody(t, one(api.S64), "I32Const 2, I64Load 1 4, End", 'e'|'t'<<8, 0, 3)
	holdBody(t, one(api.S64), "I32Const 8, I64Load 1 0, End", 0, 0, 3)
	holdBody(t, one(api.S32), "I32Const 12, I32Load 1 0, End", 0, 0, 3)
	for _, s := range []string{
		"I32Const 5, I32Load 0 0", "I32Const 0, I32Load 0 5", "I32Const 8, I32Load 0 0", "I32Const 4, I32Load 0 1", "I32Const -1, I32Load 0 0", "I32Const -1, I32Load 0 1",
		"I32Const -4, I32Load 0 4", "I32Const 0, I32Load 0 4294967295", "I32Const 1, I32Load 0 4294967295", "I32Const -1, I32Load 0 4294967295", "I32Const -2147483648, I32Load 0 2147483648",
		"I32Const 1, I64Load 0 0", "I32Const 0, I64Load 0 1", "I32Const 5, I64Load 0 0", "I32Const -8, I64Load 0 8",
		"I32Const 13, I32Load 1 0", "I32Const 9, I64Load 1 0", "I32Const 4, I64Load 1 5", "I32Const 16, I32Load 1 0",
	} {
		holdBody(t, nil, s+", Drop, End", 0, api.TrapMem, 2)
	}
}

func TestStores(t *testing.T) {
	const public, secret = "\x01\x02\x03\x04\x85\x86\x87\x88", "\x00\x00secret\x00\x00\x00\x00\x00\x00\x00\x00"
	for s, mems := range map[string][2]string{
		"I32Const 0, I32Const 1684234849, I32Store 0 0":        {"abcd\x85\x86\x87\x88", secret},
		"I32Const 4, I32Const 1684234849, I32Store 0 0":        {"\x01\x02\x03\x04abcd", secret},
		"I32Const 1, I32Const 1684234849, I32Store 0 2":        {"\x01\x02\x03abcd\x88", secret},
		"I32Const 0, I64Const -2, I64Store 0 0":                {"\xfe\xff\xff\xff\xff\xff\xff\xff", secret},
		"I32Const 12, I32Const -2, I32Store 1 0":               {public, "\x00\x00secret\x00\x00\x00\x00\xfe\xff\xff\xff"},
		"I32Const 0, I64Const 513, I64Store 1 8":               {public, "\x00\x00secret\x01\x02\x00\x00\x00\x00\x00\x00"},
		"I32Const 2, I32Const 1684234849, I32Store 1 0":        {public, "\x00\x00abcdet\x00\x00\x00\x00\x00\x00\x00\x00"},
		"I32Const 0, LocalGet 2, I32Store 1 2":                 {public, "\x00\x00\x00\x00\x00\x00et\x00\x00\x00\x00\x00\x00\x00\x00"},
		"I32Const 4, I32Const 0, I32Load 0 0, I32Store 0 0":    {"\x01\x02\x03\x04\x01\x02\x03\x04", secret},
		"I32Const 0, I32Const 0, I64Load 0 0, I64Store 1 8":    {public, "\x00\x00secret" + public},
		"I32Const 1, I32Const 0, I32Store 0 0, Nop, Nop, Nop":  {"\x01\x00\x00\x00\x00\x86\x87\x88", secret},
		"I32Const 0, I32Const 12, I32Load 1 0, I32Store 1 4":   {public, "\x00\x00se\x00\x00\x00\x00\x00\x00\x00\x00\x00\x00\x00\x00"},
		"I32Const 0, I32Const -1, Classify, I32Store 1 0, Nop": {public, "\xff\xff\xff\xffcret\x00\x00\x00\x00\x00\x00\x00\x00"},
	} {
		m := world(nil, s+", End")
		want := untouched(m)
		want.Mems, want.Steps = mems, strings.Count(s, ",")+2
		holdRun(t, m, api.Script{Args: []int{7, -9}}, want)
	}
	for _, s := range []string{
		"I32Const 5, I32Const 1, I32Store 0 0", "I32Const 0, I32Const 1, I32Store 0 5", "I32Const 8, I32Const 1, I32Store 0 0", "I32Const -1, I32Const 1, I32Store 0 1", "I32Const -1, I32Const 1, I32Store 0 4294967295",
		"I32Const 1, I64Const 1, I64Store 0 0", "I32Const 0, I64Const 1, I64Store 0 1", "I32Const 5, I64Const 1, I64Store 0 0",
		"I32Const 13, I32Const 1, I32Store 1 0", "I32Const 9, I64Const 1, I64Store 1 0", "I32Const -8, I64Const 1, I64Store 1 8",
	} {
		holdBody(t, nil, s+", End", 0, api.TrapMem, 3)
	}
}

func TestTheGreatestMemory(t *testing.T) {
	m := alone(one(api.I32), one(api.S64), "LocalGet 0, I64Const -3, I64Store 1 0, LocalGet 0, I64Load 1 0, End")
	m.Mems[1] = api.MaxMem
	nought := strings.Repeat("\x00", 4096)
	holdRun(t, m, api.Script{Args: one(4088)}, api.Outcome{V: -3, Steps: 6, Mems: [2]string{"", nought[:4088] + "\xfd\xff\xff\xff\xff\xff\xff\xff"}})
	holdRun(t, m, api.Script{Args: one(4089)}, api.Outcome{Trap: api.TrapMem, Steps: 3, Mems: [2]string{"", nought}})
	holdRun(t, m, api.Script{Args: one(1<<32 - 1)}, api.Outcome{Trap: api.TrapMem, Steps: 3, Mems: [2]string{"", nought}})
}

// P9.2: blocks and branches.

func TestBlocks(t *testing.T) {
	holdBody(t, nil, "Block, End, Loop, End, End", 0, 0, 5)
	holdBody(t, one(api.I32), "Block I32, I32Const 5, End, End", 5, 0, 4)
	holdBody(t, one(api.I64), "Loop I64, I64Const -5, End, End", -5, 0, 4)
	holdBody(t, one(api.S32), "I32Const 1, Block S32, I32Const 5, Loop I32, I32Const 6, End, I32Sub, End, I32Shl, End", 1<<31, 0, 10)
	holdBody(t, one(api.I32), strings.Repeat("Block I32, ", 8)+"I32Const 3, "+strings.Repeat("End, ", 8)+"End", 3, 0, 18)
}

func TestIf(t *testing.T) {
	for _, by := range []string{"I32Const 1", "I32Const -1", "I32Const -2147483648", "LocalGet 0"} {
		holdBody(t, one(api.I32), by+", If I32, I32Const 1, Else, I32Const 2, End, End", 1, 0, 6)
		holdBody(t, nil, by+", If, Nop, End, End", 0, 0, 5)
		holdBody(t, nil, by+", If, Else, Unreachable, End, End", 0, 0, 5)
		holdBody(t, nil, by+", If, Unreachable, End, End", 0, api.TrapStop, 3)
	}
	holdBody(t, one(api.I32), "I32Const 0, If I32, I32Const 1, Else, I32Const 2, End, End", 2, 0, 5)
	holdBody(t, nil, "I32Const 0, If, Unreachable, End, End", 0, 0, 4)
	holdBody(t, nil, "I32Const 0, If, End, End", 0, 0, 4)
	holdBody(t, nil, "I32Const 0, If, Unreachable, Else, End, End", 0, 0, 4)
	holdBody(t, nil, "I32Const 0, If, Nop, Else, Unreachable, End, End", 0, api.TrapStop, 3)
	// What is below is still there.
	holdBody(t, one(api.I32), "I32Const 30, I32Const 0, If I32, I32Const 5, Else, I32Const 6, End, I32Add, End", 36, 0, 7)
	// An Else is that of its own If.
	const two = "If I32, I32Const 1, If I32, I32Const 2, Else, I32Const 3, End, Else, I32Const 0, If I32, I32Const 4, Else, I32Const 5, End, End, End"
	holdBody(t, one(api.I32), "I32Const 1, "+two, 2, 0, 10)
	holdBody(t, one(api.I32), "I32Const 0, "+two, 5, 0, 8)
	holdBody(t, nil, "I32Const 0, If, I32Const 1, If, Nop, Else, Nop, End, Unreachable, End, End", 0, 0, 4)
}

func TestBranchesOutOfOne(t *testing.T) {
	holdBody(t, nil, "Block, Br 0, Unreachable, End, End", 0, 0, 4)
	holdBody(t, one(api.I32), "Block I32, I32Const 1, I64Const 2, I32Const 3, Br 0, End, End", 3, 0, 7)
	holdBody(t, one(api.I32), "I32Const 40, Block, I32Const 1, I32Const 2, Br 0, End, End", 40, 0, 7)
	holdBody(t, one(api.I32), "I32Const 40, Block I32, I32Const 1, I32Const 2, Br 0, End, I32Add, End", 42, 0, 8)
	holdBody(t, one(api.I32), "I32Const 30, I32Const 1, If I32, I32Const 5, I32Const 6, Br 0, Else, I32Const 0, End, I32Add, End", 36, 0, 9)
	holdBody(t, one(api.I32), "I32Const 30, I32Const 0, If I32, I32Const 0, Else, I32Const 5, I32Const 6, Br 0, End, I32Add, End", 36, 0, 9)
	holdBody(t, nil, "I32Const 1, If, Br 0, Unreachable, End, End", 0, 0, 5)
	holdBody(t, nil, "I32Const 1, If, I32Const 7, Br 0, Else, Unreachable, End, End", 0, 0, 6)
}

func TestBranchesIf(t *testing.T) {
	for _, by := range []string{"1", "-1", "-2147483648"} {
		holdBody(t, one(api.I32), "I32Const 40, Block I32, I32Const 1, I32Const 2, I32Const "+by+", BrIf 0, I32Add, End, I32Add, End", 42, 0, 9)
		holdBody(t, nil, "Block, I32Const "+by+", BrIf 0, Unreachable, End, End", 0, 0, 5)
	}
	holdBody(t, one(api.I32), "I32Const 40, Block I32, I32Const 1, I32Const 2, I32Const 0, BrIf 0, I32Add, End, I32Add, End", 43, 0, 10)
	holdBody(t, nil, "Block, I32Const 0, BrIf 0, Unreachable, End, End", 0, api.TrapStop, 4)
}

func TestBranchesOutOfSeveral(t *testing.T) {
	holdBody(t, one(api.I32), "I32Const 100, Block I32, I32Const 1, Block, I32Const 2, Loop I64, I32Const 3, I32Const 4, Br 2, End, Drop, Drop, End, End, I32Add, End", 104, 0, 12)
	holdBody(t, one(api.I32), "I32Const 100, Block I32, I32Const 1, Block, I32Const 2, Loop, I32Const 4, I32Const 1, BrIf 2, Drop, End, Drop, End, End, I32Add, End", 104, 0, 12)
	holdBody(t, nil, "Block, Block, Block, I32Const 9, Br 2, End, Unreachable, End, Unreachable, End, End", 0, 0, 7)
	holdBody(t, nil, "Block, Block, Block, I32Const 9, Br 1, End, Unreachable, End, Nop, End, End", 0, 0, 9)
	holdBody(t, one(api.I32), "I32Const 5, I32Const 1, If, Block, I32Const 0, If, Unreachable, Else, I32Const 8, Br 2, End, Unreachable, End, Unreachable, End, End", 5, 0, 10)
	// As many as there may be, each with something below.
	deep := strings.Repeat("Block I32, I32Const 1, ", 8)
	holdBody(t, one(api.I32), "I32Const 50, "+deep+"I32Const 7, Br 7"+strings.Repeat(", End, I32Sub", 8)+", End", 43, 0, 22)
}

func TestBranchesBack(t *testing.T) {
	holdBody(t, one(api.I32), "I32Const 9, Loop, I32Const 55, LocalGet 0, I32Const 1, I32Sub, LocalTee 0, BrIf 0, Drop, End, End", 9, 0, 2+7*6+3)
	holdBody(t, one(api.I32), "I32Const 9, Loop, I32Const 55, Block, I32Const 56, LocalGet 0, I32Const 1, I32Sub, LocalTee 0, BrIf 1, Drop, End, Drop, End, End", 9, 0, 2+7*8+5)
	holdBody(t, one(api.I32), "Loop, LocalGet 0, If, LocalGet 0, I32Const 1, I32Sub, LocalSet 0, Br 1, End, End, LocalGet 0, End", 0, 0, 1+7*7+6)
	// A branch back takes nothing, whatever the Loop brings.
	holdBody(t, one(api.I32), "Loop I32, I32Const 8, LocalGet 0, I32Const 1, I32Sub, LocalTee 0, BrIf 0, End, LocalGet 0, I32Sub, End", 8, 0, 1+7*6+4)
	// A Loop within a Loop is begun anew each time.
	holdBody(t, one(api.I32), "Loop, I32Const 2, LocalSet 2, Loop, GlobalGet 0, Drop, LocalGet 0, I32Const 1, I32Sub, LocalTee 0, I32Const 3, I32GtU, BrIf 0, End, LocalGet 0, BrIf 0, End, LocalGet 0, End", 0, 0, 1+(3+4*9+3)+3*(3+9+3)+3)
}

func TestABranchToTheBodysOwnEnd(t *testing.T) {
	holdBody(t, nil, "Br 0, End", 0, 0, 2)
	holdBody(t, nil, "I32Const 1, I64Const 2, Br 0, Unreachable, End", 0, 0, 4)
	holdBody(t, one(api.I32), "I32Const 5, I32Const 6, Br 0, End", 6, 0, 4)
	holdBody(t, one(api.I32), "I32Const 5, Block, Loop, I32Const 1, I32Const 2, Br 2, End, End, End", 2, 0, 7)
	holdBody(t, one(api.I32), "I32Const 4, I32Const 1, BrIf 0, I32Const 1, I32Add, End", 4, 0, 4)
	holdBody(t, one(api.I32), "I32Const 4, I32Const 0, BrIf 0, I32Const 1, I32Add, End", 5, 0, 6)
	holdBody(t, one(api.I32), "I32Const 1, If, I64Const 0, I32Const 3, LocalGet 0, BrIf 1, Drop, Drop, End, I32Const 9, End", 3, 0, 7)
}

func TestReturn(t *testing.T) {
	holdBody(t, nil, "Return, End", 0, 0, 1)
	holdBody(t, nil, "I32Const 5, I64Const 6, Return, Unreachable, End", 0, 0, 3)
	holdBody(t, one(api.I32), "I32Const 5, I64Const 6, I32Const 7, Return, End", 7, 0, 4)
	holdBody(t, one(api.I32), "I32Const 4, Loop, Block I64, I32Const 5, I32Const 6, Return, End, Drop, End, End", 6, 0, 6)
	holdBody(t, one(api.I64), "I32Const 1, If, I64Const -1, Return, End, I64Const 1, End", -1, 0, 4)
}

func TestABodyThatEndsDead(t *testing.T) {
	holdBody(t, one(api.I32), "Unreachable, End", 0, api.TrapStop, 1)
	holdBody(t, one(api.I64), "Unreachable, I32Add, Drop, End", 0, api.TrapStop, 1)
	holdBody(t, one(api.I32), "I32Const 3, Return, I64Const 1, Drop, End", 3, 0, 2)
	holdBody(t, one(api.I32), "I32Const 3, Br 0, Block, Loop, Br 1, End, End, End", 3, 0, 3)
	holdBody(t, one(api.I32), "Block I32, I32Const 3, Br 0, Drop, Drop, End, End", 3, 0, 5)
	holdBody(t, one(api.I32), "I32Const 1, If I32, I32Const 4, Return, Else, Unreachable, End, End", 4, 0, 4)
}

func TestARunWithoutEnd(t *testing.T) {
	for _, s := range []string{"Loop, Br 0, End, I32Const 1, End", "Loop I32, Br 0, End, End", "Loop, I32Const 1, BrIf 0, End, I32Const 1, End", "Loop I32, Block, I32Const 3, Br 1, End, I32Const 1, End, End"} {
		m := alone(nil, one(api.I32), s)
		for _, fuel := range []int{0, 1, 2, 3, 100, 100000} {
			x := api.Script{Fuel: fuel}
			if o := ran(t, m, x); !alike(o, api.Outcome{Trap: api.TrapRunning, Steps: fuel}) {
				t.Errorf("%s with fuel %d: %+v", s, fuel, o)
			}
		}
	}
}

func TestTrapsOfNumbers(t *testing.T) {
	for _, s := range []string{"I32Const 5, I32Const 0, I32DivS", "I32Const 0, I32Const 0, I32DivU", "I32Const 5, I32Const 0, I32RemS", "I32Const 5, I32Const 0, I32RemU", "I64Const 5, I64Const 0, I64DivS", "I64Const 5, I64Const 0, I64DivU", "I64Const 5, I64Const 0, I64RemS", "I64Const 5, I64Const 0, I64RemU"} {
		holdBody(t, one(api.I32), s+", Drop, I32Const 1, End", 0, api.TrapZero, 3)
	}
	holdBody(t, nil, "I32Const -2147483648, I32Const -1, I32DivS, Drop, End", 0, api.TrapOver, 3)
	holdBody(t, nil, "I64Const -9223372036854775808, I64Const -1, I64DivS, Drop, End", 0, api.TrapOver, 3)
	holdBody(t, one(api.I32), "I32Const -2147483648, I32Const -1, I32RemS, End", 0, 0, 4)
}

// P9.2: calls.

func TestCalls(t *testing.T) {
	const weigh = "I32Const 1, I32Const 2, I32Const 3, I32Const 4, " + ownWeigh
	holdBody(t, one(api.I32), weigh+", End", 4321, 0, 4+1+14+1)
	holdBody(t, one(api.I32), "I32Const 5, "+weigh+", I32Sub, End", 1<<32-4316, 0, 4+1+14+3)
	// The caller's locals stay, and each call has its own, nought first.
	holdBody(t, one(api.I32), weigh+", Drop, LocalGet 0, End", 7, 0, 4+1+14+3)
	holdBody(t, one(api.I64), ownLocals+", "+ownLocals+", I64Add, "+ownLocals+", I64Add, End", 0, 0, 3*9+3)
	holdBody(t, one(api.I64), "I64Const 4, "+ownSum+", End", 10, 0, 2+4*11+7+1)
	m := world(one(api.I32), "I32Const 3, Classify, "+ownMark+", GlobalGet 1, Declassify, End")
	want := untouched(m)
	want.V, want.Steps, want.Globals[1] = 3, 9, 3
	holdRun(t, m, api.Script{Args: []int{7, -9}}, want)
	// What is run first may be any function.
	want = untouched(m)
	want.V, want.Steps = 8765, 14
	holdRun(t, m, api.Script{Func: 1, Args: []int{5, 6, 7, 8}}, want)
}

func TestACallLeavesNothingBelow(t *testing.T) {
	for s, steps := range map[string]int{"I32Const 1, I64Const 2, I32Const 3, Return, End": 8, "I32Const 1, I64Const 2, I32Const 3, Br 0, End": 9, "I32Const 1, Block, I64Const 2, I32Const 3, Br 1, End, End": 10} {
		m := alone(nil, one(api.I32), "I32Const 100, Call 1, I32Sub, End")
		m.Funcs = append(m.Funcs, api.Func{Body: body(s)})
		holdRun(t, m, api.Script{}, api.Outcome{V: 97, Steps: steps})
	}
}

func TestCallsOfOneAnother(t *testing.T) {
	// Whether a number is even: by the one that asks whether the number ahead of it is odd.
	m := alone(one(api.I32), one(api.I32), "LocalGet 0, I32Eqz, If I32, I32Const 1, Else, LocalGet 0, I32Const 1, I32Sub, Call 1, End, End")
	m.Funcs = append(m.Funcs, api.Func{Body: body("LocalGet 0, I32Eqz, If, I32Const 0, Return, End, LocalGet 0, I32Const 1, I32Sub, Call 0, End")})
	for n, even := range []int{1, 0, 1, 0, 1, 0} {
		evens, odds := (n+1)/2, n/2 // calls that call on
		last := 7
		if even == 0 {
			last = 5
		}
		holdRun(t, m, api.Script{Args: one(n)}, api.Outcome{V: even, Steps: evens*9 + odds*9 + last})
	}
}

func TestAsManyCallsWithinOneAnotherAsThereMayBe(t *testing.T) {
	m := world(one(api.I64), "LocalGet 1, "+ownSum+", End")
	want := untouched(m)
	want.V, want.Steps = 38*39/2, 3+38*11+7
	holdRun(t, m, api.Script{Args: []int{7, 38}}, want)
	want.V, want.Trap, want.Steps = 0, api.TrapDepth, 2+39*7
	for _, n := range []int{39, 40, 41, -1, math.MaxInt} {
		holdRun(t, m, api.Script{Args: []int{7, n}}, want)
	}
	want = untouched(m)
	want.V, want.Steps = 39*40/2, 39*11+7
	holdRun(t, m, api.Script{Func: 2, Args: one(39)}, want)
	want.V, want.Trap, want.Steps = 0, api.TrapDepth, 40*7
	holdRun(t, m, api.Script{Func: 2, Args: one(40)}, want)
}

func TestCallsThatHaveEndedCountNoMore(t *testing.T) {
	m := world(nil, "Loop, LocalGet 2, "+ownMark+", LocalGet 0, I32Const 1, I32Sub, LocalTee 0, BrIf 0, End, End")
	want := untouched(m)
	want.Steps, want.Globals[1] = 1+100*10+2, 0
	holdRun(t, m, api.Script{Args: []int{100, 0}}, want)
}

func TestAHostCallIsNoneOfTheCallsWithinOneAnother(t *testing.T) {
	m := alone(one(api.I32), nil, "LocalGet 0, If, LocalGet 0, I32Const 1, I32Sub, Call 1, Else, Call 0, End, End")
	m.Sigs = append(m.Sigs, api.Sig{})
	m.Imports = one(1)
	x := api.Script{Args: one(39), Answers: make([]api.Answer, 1)}
	holdRun(t, m, x, api.Outcome{Calls: make([]api.HostCall, 1), Steps: 39*9 + 5})
	x.Args = one(40)
	holdRun(t, m, x, api.Outcome{Trap: api.TrapDepth, Steps: 40 * 6})
}

// P9.3

// hostCalls are calls of function n, of these arguments.
func hostCalls(n int, args ...[]int) (l []api.HostCall) {
	for _, a := range args {
		l = append(l, api.HostCall{Func: n, Args: a})
	}
	return l
}

func TestHostCalls(t *testing.T) {
	m := world(one(api.I64), "I32Const 5, LocalGet 1, "+hostBoth+", LocalGet 0, LocalGet 3, "+hostBoth+", I32Sub, I32Const -1, "+hostNone+", "+hostWide+", LocalSet 1, I64ExtendU, LocalGet 1, I64Sub, End")
	x := api.Script{Args: []int{7, -9}, Answers: []api.Answer{{V: 1}, {V: 3}, {}, {V: -4}, {V: 99}}}
	want := untouched(m)
	want.V, want.Steps = 1<<32-2+4, 15
	want.Calls = slices.Concat(hostCalls(0, []int{5, -9}, []int{7, 0}), hostCalls(2, []int{1<<32 - 1}), hostCalls(1, nil))
	holdRun(t, m, x, want)
}

func TestTheFirstParameterIsFirst(t *testing.T) {
	m := alone(nil, one(api.I32), "I32Const 9, I32Const 1, I64Const -2, I32Const -3, I64Const 4, Call 1, I32Sub, End")
	m.Sigs = append(m.Sigs, api.Sig{}, api.Sig{Params: []int{api.I32, api.I64, api.S32, api.S64}, Results: one(api.I32)})
	m.Imports = []int{1, 2}
	want := api.Outcome{V: 3, Steps: 8, Calls: hostCalls(1, []int{1, -2, 1<<32 - 3, 4})}
	holdRun(t, m, api.Script{Answers: []api.Answer{{V: 6}}}, want)
}

func TestHostCallsOfInnerFunctions(t *testing.T) {
	m := alone(nil, nil, "I32Const 1, Call 0, Call 2, I32Const 3, Call 0, End")
	m.Sigs = append(m.Sigs, api.Sig{Params: one(api.I32)})
	m.Imports = one(1)
	m.Funcs = append(m.Funcs, api.Func{Body: body("I32Const 2, Call 0, End")})
	holdRun(t, m, api.Script{Answers: make([]api.Answer, 3)}, api.Outcome{Steps: 9, Calls: hostCalls(0, one(1), one(2), one(3))})
	holdRun(t, m, api.Script{Answers: make([]api.Answer, 1)}, api.Outcome{Steps: 5, Trap: api.TrapScript, Calls: hostCalls(0, one(1), one(2))})
}

// asking is a module whose function calls the host once, between what changes a global and a memory, and brings what that brings.
func asking(results []int) api.Module {
	m := alone(nil, results, "I32Const 1, GlobalSet 0, I32Const 0, I32Const 65, I32Store 0 0, Call 0, I32Const 2, GlobalSet 0, End")
	m.Imports = one(0)
	m.Mems = [2]int{3, 3}
	m.Globals = []api.Global{{}}
	return m
}

func TestAnswersOfEachWidth(t *testing.T) {
	for _, c := range []struct {
		results []int
		fine    []int
		wrong   []int
	}{
		{nil, []int{0}, append(outsides(), 1, 2, 1<<32-1)},
		{one(api.I32), []int{0, 1, 1<<31 - 1, 1 << 31, 1<<32 - 1}, outsides()},
		{one(api.S32), []int{0, 1, 1<<31 - 1, 1 << 31, 1<<32 - 1}, outsides()},
		{one(api.I64), append(outsides(), 0, 1, 1<<32-1), nil},
		{one(api.S64), append(outsides(), 0, 1, 1<<32-1), nil},
	} {
		m := asking(c.results)
		const stored = "A\x00\x00\x00\x00\x00\x00\x00"
		secret := strings.Repeat("\x00", 8)
		writes := []api.Write{{Mem: 1, At: 7, Bytes: "z"}}
		for _, v := range c.fine {
			x := api.Script{Answers: []api.Answer{{V: v, Writes: writes}}}
			holdRun(t, m, x, api.Outcome{V: v, Steps: 9, Globals: one(2), Mems: [2]string{stored, secret[:7] + "z"}, Calls: hostCalls(0, nil)})
		}
		for _, v := range c.wrong {
			// What it would write isn't written either.
			x := api.Script{Answers: []api.Answer{{V: v, Writes: writes}}}
			holdRun(t, m, x, api.Outcome{Trap: api.TrapScript, Steps: 6, Globals: one(1), Mems: [2]string{stored, secret}, Calls: hostCalls(0, nil)})
		}
	}
}

func TestNoAnswerLeft(t *testing.T) {
	for _, results := range [][]int{nil, one(api.I32), one(api.S64)} {
		m := asking(results)
		for _, answers := range [][]api.Answer{nil, {}} {
			holdRun(t, m, api.Script{Answers: answers}, api.Outcome{Trap: api.TrapScript, Steps: 6, Globals: one(1), Mems: [2]string{"A\x00\x00\x00\x00\x00\x00\x00", strings.Repeat("\x00", 8)}, Calls: hostCalls(0, nil)})
		}
	}
}

func TestWritesOfAnAnswer(t *testing.T) {
	nought := strings.Repeat("\x00", 8)
	stored := "A" + nought[1:]
	m := asking(nil)
	for _, c := range []struct {
		writes []api.Write
		mems   [2]string
	}{
		{nil, [2]string{stored, nought}},
		{[]api.Write{}, [2]string{stored, nought}},
		{[]api.Write{{Mem: 0, At: 0, Bytes: "12345678"}}, [2]string{"12345678", nought}},
		{[]api.Write{{Mem: 1, At: 0, Bytes: "12345678"}}, [2]string{stored, "12345678"}},
		{[]api.Write{{Mem: 1, At: 0, Bytes: "12345678"}, {Mem: 0, At: 0, Bytes: "abcdefgh"}, {Mem: 1, At: 2, Bytes: "xy"}}, [2]string{"abcdefgh", "12xy5678"}},
		{[]api.Write{{Mem: 0, At: 7, Bytes: "z"}}, [2]string{stored[:7] + "z", nought}},
		{[]api.Write{{Mem: 0, At: 8}, {Mem: 1, At: 8}}, [2]string{stored, nought}},
	} {
		holdRun(t, m, api.Script{Answers: []api.Answer{{Writes: c.writes}}}, api.Outcome{Steps: 9, Globals: one(2), Mems: c.mems, Calls: hostCalls(0, nil)})
	}
	wrong := []api.Write{{At: 8, Bytes: "a"}, {At: 7, Bytes: "ab"}, {At: 0, Bytes: "123456789"}, {At: 9}, {At: -1, Bytes: "a"}, {At: -1}, {Mem: 2, Bytes: "a"}, {Mem: -1, Bytes: "a"}, {Mem: 1, At: 5, Bytes: "abcd"}}
	for _, n := range outsides() {
		wrong = append(wrong, api.Write{At: n, Bytes: "a"}, api.Write{Mem: 1, At: n, Bytes: "a"}, api.Write{Mem: n, Bytes: "a"})
	}
	for _, w := range wrong {
		for _, writes := range [][]api.Write{{w}, {{Mem: 0, At: 1, Bytes: "b"}, {Mem: 1, At: 1, Bytes: "b"}, w}, {w, {Mem: 1, At: 1, Bytes: "b"}}} {
			want := api.Outcome{Trap: api.TrapScript, Steps: 6, Globals: one(1), Mems: [2]string{stored, nought}, Calls: hostCalls(0, nil)}
			holdRun(t, m, api.Script{Answers: []api.Answer{{Writes: writes}}}, want)
		}
	}
}

func TestWritesWithoutAMemory(t *testing.T) {
	m := alone(nil, nil, "Call 0, End")
	m.Imports = one(0)
	holdRun(t, m, api.Script{Answers: []api.Answer{{Writes: []api.Write{{}, {Mem: 1}}}}}, api.Outcome{Steps: 2, Calls: hostCalls(0, nil)})
	holdRun(t, m, api.Script{Answers: []api.Answer{{Writes: []api.Write{{Bytes: "a"}}}}}, api.Outcome{Trap: api.TrapScript, Steps: 1, Calls: hostCalls(0, nil)})
}

func TestWhatAnAnswerWroteIsLoaded(t *testing.T) {
	m := world(one(api.S64), hostWide+", I32Const 8, I64Load 1 0, I64Add, End")
	want := untouched(m)
	want.Mems[1] = want.Mems[1][:8] + "\x02\x01\x00\x00\x00\x00\x00\x00"
	want.V, want.Steps, want.Calls = 0x102-1, 5, hostCalls(1, nil)
	holdRun(t, m, api.Script{Args: []int{7, -9}, Answers: []api.Answer{{V: -1, Writes: []api.Write{{Mem: 1, At: 8, Bytes: "\x02\x01"}}}}}, want)
}

func TestAsManyHostCallsAsThereMayBe(t *testing.T) {
	m := alone(one(api.I32), nil, "Loop, LocalGet 0, Call 0, LocalGet 0, I32Const 1, I32Sub, LocalTee 0, BrIf 0, End, End")
	m.Sigs = append(m.Sigs, api.Sig{Params: one(api.S32)})
	m.Imports = one(1)
	calls := func(first, many int) (l []api.HostCall) {
		for i := range many {
			l = append(l, api.HostCall{Args: one(first - i)})
		}
		return l
	}
	for _, answers := range []int{60, 61, 1000} {
		x := api.Script{Args: one(60), Answers: make([]api.Answer, answers)}
		holdRun(t, m, x, api.Outcome{Calls: calls(60, 60), Steps: 60*7 + 3})
		for _, n := range []int{61, 62, 1<<32 - 1} {
			x.Args = one(n)
			holdRun(t, m, x, api.Outcome{Trap: api.TrapScript, Calls: calls(n, 61), Steps: 60*7 + 3})
		}
	}
	for _, answers := range []int{1, 30, 59} {
		x := api.Script{Args: one(60), Answers: make([]api.Answer, answers)}
		holdRun(t, m, x, api.Outcome{Trap: api.TrapScript, Calls: calls(60, answers+1), Steps: answers*7 + 3})
	}
}

// P9.4

func TestWhatIsThereBehindATrap(t *testing.T) {
	const before = "I32Const 1, GlobalSet 0, I32Const 4, I32Const -1, I32Store 0 0, I32Const 8, I64Const -2, I64Store 1 0, I32Const 3, I64Const 4, " + hostBoth + ", GlobalSet 1, "
	const behind = ", I32Const 9, GlobalSet 0, I32Const 0, I32Const 9, I32Store 0 0, I32Const 77, End"
	for s, c := range map[string]struct{ trap, steps int }{
		"Unreachable":                                      {api.TrapStop, 1},
		"I32Const 1, I32Const 0, I32RemU, Drop":            {api.TrapZero, 3},
		"I32Const -2147483648, I32Const -1, I32DivS, Drop": {api.TrapOver, 3},
		"I32Const 5, I32Load 0 0, Drop":                    {api.TrapMem, 2},
		"I32Const 0, I64Const 7, I64Store 0 1":             {api.TrapMem, 3},
		"I64Const 1000, " + ownSum + ", Drop":              {api.TrapDepth, 2 + 39*7},
		hostWide + ", Drop":                                {api.TrapScript, 1},
		"Nop":                                              {api.NoTrap, 8},
	} {
		m := world(one(api.I32), before+s+behind)
		want := untouched(m)
		want.Trap, want.Steps = c.trap, 12+c.steps
		want.Globals = []int{1, 1<<32 - 1, -7, 8}
		want.Mems = [2]string{"h\x02\x03\x04\xff\xff\xff\xff", "\x00\x00secret\xfe\xff\xff\xff\xff\xff\xff\xff"}
		want.Calls = hostCalls(0, []int{3, 4})
		switch c.trap {
		case api.NoTrap:
			want.V, want.Globals[0], want.Mems[0] = 77, 9, "\x09\x00\x00\x00\xff\xff\xff\xff"
		case api.TrapScript:
			want.Calls = append(want.Calls, hostCalls(1, nil)...)
		}
		x := api.Script{Args: []int{7, -9}, Answers: []api.Answer{{V: 1<<32 - 1, Writes: []api.Write{{Bytes: "h"}}}}}
		holdRun(t, m, x, want)
	}
}

func TestATrapWithinCallsEndsAll(t *testing.T) {
	m := alone(one(api.I32), one(api.I32), "LocalGet 0, If I32, LocalGet 0, I32Const 1, I32Sub, Call 0, GlobalGet 0, I32Const 1, I32Add, GlobalSet 0, Else, I32Const 5, GlobalSet 0, Unreachable, End, End")
	m.Globals = []api.Global{{}}
	for n := range 40 {
		holdRun(t, m, api.Script{Args: one(n)}, api.Outcome{Trap: api.TrapStop, Globals: one(5), Steps: n*6 + 5})
	}
}

func TestAFunctionThatBringsNothing(t *testing.T) {
	holdBody(t, nil, "LocalGet 0, Drop, End", 0, 0, 3)
	holdBody(t, nil, "LocalGet 0, Return, End", 0, 0, 2)
}

func TestEachTypeIsBrought(t *testing.T) {
	for _, v := range append(outsides(), 0, 1, 1<<32-1) {
		for _, wide := range []int{api.I64, api.S64} {
			holdRun(t, alone(one(wide), one(wide), "LocalGet 0, End"), api.Script{Args: one(v)}, api.Outcome{V: v, Steps: 2})
		}
	}
	for _, v := range []int{0, 1, 1 << 31, 1<<32 - 1} {
		for _, narrow := range []int{api.I32, api.S32} {
			holdRun(t, alone(one(narrow), one(narrow), "LocalGet 0, End"), api.Script{Args: one(v)}, api.Outcome{V: v, Steps: 2})
		}
	}
}

// P1 to P5

func TestNothingIsKept(t *testing.T) {
	m := world(one(api.I32), "I32Const 2, GlobalSet 0, I32Const 5, LocalSet 0, I32Const 5, LocalGet 1, "+hostBoth+", LocalGet 0, LocalGet 3, "+hostBoth+", I32Sub, End")
	// Each list stands in an array that goes on behind it.
	room := []int{7, -9, 1001, 1002, 1003}
	globals := append(slices.Clone(m.Globals), api.Global{V: 1004})
	m.Globals = globals[:4]
	answers := []api.Answer{{V: 1}, {V: 3}, {V: 1005}}
	x := api.Script{Args: room[:2], Answers: answers[:2], Fuel: 100}
	first := ran(t, m, x)
	again := ran(t, m, x)
	want := kept(again)
	first.Globals[0] = -1
	for i := range first.Calls {
		first.Calls[i].Args[0] = -1
		_ = append(first.Calls[i].Args, -1, -1, -1, -1)
		first.Calls[i].Func = -1
	}
	_ = append(first.Globals[:0], 1, 2, 3, 4, 5, 6, 7, 8)
	_ = append(first.Calls, api.HostCall{Func: -2})
	if !alike(again, want) || !alike(ran(t, m, x), want) {
		t.Error("what one run answered is another's:", again, want)
	}
	if !slices.Equal(room, []int{7, -9, 1001, 1002, 1003}) || globals[4].V != 1004 || globals[0].V != 1<<32-5 || answers[2].V != 1005 {
		t.Error("something was written behind what was handed in:", room, globals, answers)
	}
	for i := range again.Calls {
		_ = append(again.Calls[i].Args, -1, -1, -1, -1)
		if !alike(again, want) {
			t.Fatal("two lists of one answer share their room:", again)
		}
	}
}
