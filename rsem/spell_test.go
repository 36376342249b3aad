package rsem_test

import (
	"math"
	"reflect"
	"slices"
	"strconv"
	"strings"
	"testing"

	"oubliette/api"
	"oubliette/inst"
	"oubliette/rsem"
	"oubliette/wsem"
)

// ops are a module's instructions, by the names that bodies are spelled with here.
func ops() map[string]int {
	names := map[string]int{
		"Unreachable": api.Unreachable, "Nop": api.Nop, "Block": api.Block, "Loop": api.Loop, "If": api.If, "Else": api.Else, "End": api.End,
		"Br": api.Br, "BrIf": api.BrIf, "Return": api.Return, "Call": api.Call, "Drop": api.Drop, "Select": api.Select,
		"LocalGet": api.LocalGet, "LocalSet": api.LocalSet, "LocalTee": api.LocalTee, "GlobalGet": api.GlobalGet, "GlobalSet": api.GlobalSet,
		"I32Load": api.I32Load, "I64Load": api.I64Load, "I32Store": api.I32Store, "I64Store": api.I64Store, "I32Const": api.I32Const, "I64Const": api.I64Const,
		"I32Wrap": api.I32Wrap, "I64ExtendS": api.I64ExtendS, "I64ExtendU": api.I64ExtendU, "Classify": api.Classify, "Declassify": api.Declassify,
	}
	for i, name := range strings.Fields("Eqz Eq Ne LtS LtU GtS GtU LeS LeU GeS GeU") {
		names["I32"+name], names["I64"+name] = api.I32Eqz+i, api.I64Eqz+i
	}
	for i, name := range strings.Fields("Add Sub Mul DivS DivU RemS RemU And Or Xor Shl ShrS ShrU Rotl Rotr") {
		names["I32"+name], names["I64"+name] = api.I32Add+i, api.I64Add+i
	}
	return names
}

var typeNames = []string{api.I32: "I32", api.I64: "I64", api.S32: "S32", api.S64: "S64"}

// body reads "LocalGet 1, If S32, I32Load 1 8": an instruction's number (a block's type; a memory and an offset) stands behind it.
func body(s string) (l []api.Instr) {
	names := ops()
	for _, part := range strings.Split(s, ", ") {
		words := strings.Fields(part)
		op, ok := names[words[0]]
		if !ok {
			panic("no instruction: " + words[0])
		}
		x := api.Instr{Op: op}
		for i, w := range words[1:] {
			n, err := strconv.Atoi(w)
			switch {
			case err != nil:
				x.M = slices.Index(typeNames, w) + 1
			case inst.Kind(op) == 4 && i == 0:
				x.M = n
			default:
				x.N = n
			}
		}
		l = append(l, x)
	}
	return l
}

// one is a list of a number.
func one(n int) []int { return []int{n} }

// alone is a module of one function, without anything beside it.
func alone(params, results []int, s string) api.Module {
	return api.Module{Sigs: []api.Sig{{Params: params, Results: results}}, Funcs: []api.Func{{Body: body(s)}}}
}

// What a world's functions are called by.
const (
	hostBoth  = "Call 0" // of the host: I32, S64; brings I32
	hostWide  = "Call 1" // of the host: of nothing; brings I64
	hostNone  = "Call 2" // of the host: S32; brings nothing
	ownWeigh  = "Call 4" // four I32 a, b, c, d; brings a + 10 b + 100 c + 1000 d
	ownSum    = "Call 5" // I64 n; brings n + (n - 1) + .. + 1, by calling itself
	ownMark   = "Call 6" // S32; brings nothing, leaves it in global 1
	ownLocals = "Call 7" // of nothing; brings what its locals have first, all together, and changes them
)

// How many steps a call of one of these takes, less what hangs on its caller.
const (
	weighSteps  = 4 + 1 + 14 // its arguments, the call, its code
	markSteps   = 1 + 1 + 3
	localsSteps = 1 + 2 + 8
)

// world is a module with something of each kind. The function that is asked, 0 (Call 3), has the body s and brings results; its locals and its globals are, from 0 on, I32, I64, S32, S64; the first two locals are its parameters.
func world(results []int, s string) api.Module {
	return api.Module{
		Sigs: []api.Sig{
			{Params: []int{api.I32, api.I64}, Results: results},
			{Params: []int{api.I32, api.S64}, Results: one(api.I32)},
			{Results: one(api.I64)},
			{Params: []int{api.S32}},
			{Params: []int{api.I32, api.I32, api.I32, api.I32}, Results: one(api.I32)},
			{Params: []int{api.I64}, Results: one(api.I64)},
		},
		Imports: []int{1, 2, 3},
		Funcs: []api.Func{
			{Sig: 0, Trusted: true, Locals: []int{api.S32, api.S64}, Body: body(s)},
			{Sig: 4, Body: body("LocalGet 0, LocalGet 1, I32Const 10, I32Mul, I32Add, LocalGet 2, I32Const 100, I32Mul, I32Add, LocalGet 3, I32Const 1000, I32Mul, I32Add, End")},
			{Sig: 5, Body: body("LocalGet 0, I64Eqz, If I64, I64Const 0, Else, LocalGet 0, I64Const 1, I64Sub, " + ownSum + ", LocalGet 0, I64Add, End, End")},
			{Sig: 3, Body: body("LocalGet 0, GlobalSet 1, End")},
			{Sig: 2, Locals: []int{api.I64, api.I64}, Body: body("LocalGet 0, LocalGet 1, I64Add, I64Const 7, LocalSet 0, I64Const 8, LocalSet 1, End")},
		},
		Mems:    [2]int{3, 4},
		Globals: []api.Global{{T: api.I32, V: 1<<32 - 5}, {T: api.S32, V: 6}, {T: api.I64, V: -7}, {T: api.S64, V: 8}},
		Data:    []api.Data{{Mem: 0, At: 0, Bytes: "\x01\x02\x03\x04\x85\x86\x87\x88"}, {Mem: 1, At: 2, Bytes: "secret"}},
	}
}

// worldLocals is how many steps a world's function 0 takes ahead of its body: those that make its locals 0.
const worldLocals = 2

// kept is a deep copy of a value, to hold it against later.
func kept[T any](v T) T {
	return reflect.ValueOf(deep(reflect.ValueOf(&v).Elem())).Elem().Interface().(T)
}

func deep(v reflect.Value) any {
	p := reflect.New(v.Type())
	to := p.Elem()
	switch v.Kind() {
	case reflect.Slice:
		if v.IsNil() {
			return p.Interface()
		}
		to.Set(reflect.MakeSlice(v.Type(), v.Len(), v.Len()))
		for i := range v.Len() {
			to.Index(i).Set(reflect.ValueOf(deep(v.Index(i))).Elem())
		}
	case reflect.Array:
		for i := range v.Len() {
			to.Index(i).Set(reflect.ValueOf(deep(v.Index(i))).Elem())
		}
	case reflect.Struct:
		for i := range v.NumField() {
			to.Field(i).Set(reflect.ValueOf(deep(v.Field(i))).Elem())
		}
	default:
		to.Set(v)
	}
	return p.Interface()
}

// alike: whether both outcomes are the same; a list of nothing is one, nil or not.
func alike(a, b api.Outcome) bool { return a.Steps == b.Steps && endAlike(a, b) }

// endAlike: whether both outcomes are the same, but for their steps.
func endAlike(a, b api.Outcome) bool {
	return a.Trap == b.Trap && a.V == b.V && a.Mems == b.Mems && slices.Equal(a.Globals, b.Globals) &&
		slices.EqualFunc(a.Calls, b.Calls, func(x, y api.HostCall) bool { return x.Func == y.Func && slices.Equal(x.Args, y.Args) })
}

// ran is the outcome of a run that must fit; what is handed in must stay as it was.
func ran(t *testing.T, m api.Module, x api.Script) api.Outcome {
	t.Helper()
	m0, x0 := kept(m), kept(x)
	o, e := rsem.Run(m, x)
	if e != api.OK {
		t.Fatalf("Run of %v: error %d\n%+v", x, e, m)
	}
	if !reflect.DeepEqual(m, m0) || !reflect.DeepEqual(x, x0) {
		t.Fatalf("what was handed in is not what it was: %v, %v", m, x)
	}
	return o
}

// holdRun holds the outcome of a run that needs no more than want.Steps, with just so much fuel, with more, and with less; and that the module's own run ends alike.
func holdRun(t *testing.T, m api.Module, x api.Script, want api.Outcome) {
	t.Helper()
	for _, fuel := range []int{want.Steps, want.Steps + 1, 10000, math.MaxInt} {
		x.Fuel = fuel
		if o := ran(t, m, x); !alike(o, want) {
			t.Fatalf("of fuel %d: %+v; want %+v", fuel, o, want)
		}
	}
	for _, fuel := range []int{0, 1, want.Steps / 2, want.Steps - 1} {
		if fuel < 0 || fuel >= want.Steps {
			continue
		}
		x.Fuel = fuel
		o := ran(t, m, x)
		if o.Trap != api.TrapRunning || o.Steps != fuel || o.V != 0 {
			t.Fatalf("of fuel %d: %+v; want one that is running", fuel, o)
		}
		if r := reckonedRun(m, x); !alike(o, r) {
			t.Fatalf("of fuel %d: %+v; reckoned %+v", fuel, o, r)
		}
	}
	x.Fuel = 10000
	if r := reckonedRun(m, x); !alike(r, want) {
		t.Fatalf("reckoned: %+v; want %+v", r, want)
	}
	if own, e := wsem.Run(m, x); e != api.OK || !endAlike(own, want) {
		t.Fatalf("the module's own run: %+v, %d; want %+v", own, e, want)
	}
}

// untouched is the outcome of a run of m that changes nothing.
func untouched(m api.Module) (o api.Outcome) {
	for _, g := range m.Globals {
		o.Globals = append(o.Globals, g.V)
	}
	for k := range m.Mems {
		o.Mems[k] = string(memoryOf(m, k))
	}
	return o
}

// holdBody holds what the body s brings, in a world, of the arguments 7 and -9, if it changes nothing beside; steps are those of the body alone.
func holdBody(t *testing.T, results []int, s string, v, trap, steps int) {
	t.Helper()
	m := world(results, s)
	want := untouched(m)
	want.V, want.Trap, want.Steps = v, trap, worldLocals+steps
	before := t.Failed()
	defer func() {
		if t.Failed() && !before {
			t.Errorf("of the body %s", s)
		}
	}()
	holdRun(t, m, api.Script{Args: []int{7, -9}}, want)
}

// hostCalls are calls of function n, of these arguments.
func hostCalls(n int, args ...[]int) (l []api.HostCall) {
	for _, a := range args {
		l = append(l, api.HostCall{Func: n, Args: a})
	}
	return l
}

// outsides are numbers that are neither values of 32 bits nor indexes.
func outsides() []int {
	return []int{math.MinInt, math.MinInt + 1, -1 << 32, -1<<31 - 1, -1 << 31, -1, 1 << 32, 1<<32 + 1, math.MaxInt - 1, math.MaxInt}
}
