package valid_test

import (
	"errors"
	"math"
	"slices"
	"strconv"
	"strings"
	"testing"

	"oubliette/api"
	"oubliette/inst"
	"oubliette/label"
	"oubliette/valid"
	"oubliette/word"
)

// ops are the instructions that bodies are spelled with here.
func ops() map[string]int {
	return map[string]int{
		"Unreachable": api.Unreachable, "Nop": api.Nop, "Block": api.Block, "Loop": api.Loop, "If": api.If, "Else": api.Else, "End": api.End,
		"Br": api.Br, "BrIf": api.BrIf, "Return": api.Return, "Call": api.Call, "Drop": api.Drop, "Select": api.Select,
		"LocalGet": api.LocalGet, "LocalSet": api.LocalSet, "LocalTee": api.LocalTee, "GlobalGet": api.GlobalGet, "GlobalSet": api.GlobalSet,
		"I32Load": api.I32Load, "I64Load": api.I64Load, "I32Store": api.I32Store, "I64Store": api.I64Store,
		"I32Const": api.I32Const, "I64Const": api.I64Const, "I32Eqz": api.I32Eqz, "I64Eqz": api.I64Eqz, "I32Add": api.I32Add, "I64Add": api.I64Add,
		"I32DivU": api.I32DivU, "I32RemS": api.I32RemS, "I64DivS": api.I64DivS, "I32Wrap": api.I32Wrap, "I64ExtendU": api.I64ExtendU,
		"Classify": api.Classify, "Declassify": api.Declassify,
	}
}

// types are the types, by their names.
func types() map[string]int {
	return map[string]int{"I32": api.I32, "I64": api.I64, "S32": api.S32, "S64": api.S64}
}

// body reads "LocalGet 1, If S32, I32Load 1 8": an instruction's number (a block's type; a memory and an offset) stands behind it.
func body(s string) (l []api.Instr) {
	names, kinds := ops(), types()
	for _, part := range strings.Split(s, ", ") {
		words := strings.Fields(part)
		if len(words) == 0 {
			continue
		}
		op, ok := names[words[0]]
		if !ok {
			panic("no instruction: " + words[0])
		}
		x := api.Instr{Op: op}
		for i, w := range words[1:] {
			n, err := strconv.Atoi(w)
			switch {
			case err != nil:
				x.M = kinds[w] + 1
			case inst.Kind(op) == 4 && i == 0:
				x.M = n
			default:
				x.N = n
			}
		}
		l = append(l, x)
	}
	return l
}

// asked is the number of the function of a world whose body is asked: what is told of it stands from 1000 on.
const (
	asked = 1
	from  = 1000
)

// world is a module with something of each kind. Its locals and its globals are, from 0 on, I32, S32, I64, S64. Calls 0 and 1 are of the host, 2 and 4 of functions beside the one that is asked; 4 is trusted.
func world(results []int, trusted bool, l []api.Instr) api.Module {
	return api.Module{
		Sigs: []api.Sig{
			{Params: []int{api.I32, api.S64}, Results: []int{api.S32}},
			{Params: []int{api.I32, api.S32}, Results: results},
			{Params: []int{api.S32}},
			{Results: []int{api.I64}},
		},
		Imports: []int{0, 2},
		Funcs: []api.Func{
			{Sig: 3, Body: body("I64Const 7, End")},
			{Sig: 1, Trusted: trusted, Locals: []int{api.I64, api.S64}, Body: l},
			{Sig: 0, Trusted: true, Locals: []int{api.I32}, Body: body("LocalGet 1, I32Wrap, Declassify, LocalTee 2, End")},
		},
		Mems:    [2]int{4, 5},
		Globals: []api.Global{{T: api.I32, V: 5}, {T: api.S32, V: 6}, {T: api.I64, V: -7}, {T: api.S64, V: 8}},
		Data:    []api.Data{{Mem: 0, At: 12, Bytes: "four"}, {Mem: 1, At: 0, Bytes: "secret"}},
	}
}

// cell is the number of a world's local and global of that type.
func cell(t int) int { return []int{0, 2, 1, 3}[t] }

// holdFault holds that err is a fault as the chapter says.
func holdFault(t *testing.T, err error, code api.Errno, at int) {
	t.Helper()
	f, ok := err.(*api.Fault)
	if !ok || f == nil {
		t.Errorf("no fault: %v; want %d at %d", err, code, at)
		return
	}
	if f.Code != code || f.At != at {
		t.Errorf("%d at %d; want %d at %d", f.Code, f.At, code, at)
	}
	var e api.Errno
	if !errors.Is(err, code) || !errors.As(err, &e) || e != code {
		t.Errorf("the fault %d does not wrap its code", code)
	}
	for _, other := range []api.Errno{api.OK, api.ErrLimit, api.ErrMalformed, api.ErrInvalid, api.ErrArg, api.ErrScript, api.ErrForm} {
		if other != code && errors.Is(err, other) {
			t.Errorf("the fault %d is %d, too", code, other)
		}
	}
}

// outside are numbers of functions that no module has.
func outside(m api.Module) []int {
	return []int{math.MinInt, math.MinInt + 1, -1 << 32, -1, len(m.Funcs), len(m.Funcs) + 1, 1 << 32, math.MaxInt - 1, math.MaxInt}
}

// holdError holds that each call tells that error of m.
func holdError(t *testing.T, m api.Module, code api.Errno, at int) {
	t.Helper()
	holdFault(t, valid.Valid(m), code, at)
	for _, f := range append(outside(m), 0, 1) {
		h, err := valid.Heights(m, f)
		holdFault(t, err, code, at)
		if len(h) != 0 {
			t.Errorf("Heights of %d: %v beside an error", f, h)
		}
	}
}

// holdFine holds that m may be.
func holdFine(t *testing.T, m api.Module) {
	t.Helper()
	if err := valid.Valid(m); err != nil {
		var f *api.Fault
		errors.As(err, &f)
		t.Errorf("%+v; want none", f)
		return
	}
	for f := range m.Funcs {
		if h, err := valid.Heights(m, f); len(h) != len(m.Funcs[f].Body) || err != nil {
			t.Errorf("Heights of %d: %v, %v", f, h, err)
		}
	}
}

// What is left on the stack behind instructions, beside a type.
const (
	anything = -1 // one that is any
	nothing  = -2
	deadEnd  = -3 // nothing, and below it any
)

// holdLeft holds what is left on the stack behind l: by asking whether the body may end there, whatever its signature brings.
func holdLeft(t *testing.T, l []api.Instr, trusted bool, left int) {
	t.Helper()
	whole := slices.Concat(l, body("End"))
	for brings := nothing; brings <= api.S64; brings++ {
		var results []int
		fits := left == nothing || left == deadEnd
		if brings >= 0 {
			results = []int{brings}
			fits = left == anything || left == deadEnd || label.Flows(left, brings)
		}
		m := world(results, trusted, whole)
		before := t.Failed()
		if fits {
			holdFine(t, m)
		} else {
			holdError(t, m, api.ErrInvalid, from+len(l))
		}
		if t.Failed() && !before {
			t.Errorf("left by %v, if it brings %v", l, results)
		}
	}
}

// holdBroken holds that the last one of l breaks a rule; what stands behind it counts for nothing.
func holdBroken(t *testing.T, l []api.Instr, trusted bool) {
	t.Helper()
	for _, rest := range []string{"", "Unreachable", "Drop, Call 99"} {
		m := world(nil, trusted, closing(slices.Concat(l, body(rest))))
		before := t.Failed()
		holdError(t, m, api.ErrInvalid, from+len(l)-1)
		if t.Failed() && !before {
			t.Errorf("broken by the last one of %v", l)
		}
	}
}

// P7.1

func TestWorld(t *testing.T) {
	for _, trusted := range []bool{false, true} {
		m := world([]int{api.S32}, trusted, body("I32Const 1, LocalGet 3, Call 0, Call 1, Call 2, Drop, LocalGet 1, End"))
		holdFine(t, m)
		for _, f := range outside(m) {
			h, err := valid.Heights(m, f)
			holdFault(t, err, api.ErrInvalid, 0)
			if len(h) != 0 {
				t.Errorf("Heights of %d: %v", f, h)
			}
		}
	}
}

func TestNoModule(t *testing.T) {
	holdFine(t, api.Module{})
	for _, f := range []int{math.MinInt, -1, 0, 1, math.MaxInt} {
		h, err := valid.Heights(api.Module{}, f)
		holdFault(t, err, api.ErrInvalid, 0)
		if len(h) != 0 {
			t.Error(h)
		}
	}
	holdFine(t, api.Module{Sigs: []api.Sig{}, Imports: []int{}, Funcs: []api.Func{}, Globals: []api.Global{}, Data: []api.Data{}})
	holdFine(t, api.Module{Sigs: []api.Sig{{Params: []int{}, Results: []int{}}}, Funcs: []api.Func{{Locals: []int{}, Body: body("End")}}})
}

// TestWrongModules: what is amiss beside the bodies, or makes the module none that Fits lets be, is told without a place.
func TestWrongModules(t *testing.T) {
	for name, c := range map[string]struct {
		code  api.Errno
		spoil func(m *api.Module)
	}{
		"signatures":           {api.ErrLimit, func(m *api.Module) { m.Sigs = make([]api.Sig, 17) }},
		"parameters":           {api.ErrLimit, func(m *api.Module) { m.Sigs[3].Params = make([]int, 5) }},
		"imports":              {api.ErrLimit, func(m *api.Module) { m.Imports = make([]int, 9) }},
		"functions":            {api.ErrLimit, func(m *api.Module) { m.Funcs = slices.Repeat(m.Funcs, 3) }},
		"locals":               {api.ErrLimit, func(m *api.Module) { m.Funcs[0].Locals = make([]int, 9) }},
		"instructions":         {api.ErrLimit, func(m *api.Module) { m.Funcs[0].Body = closing(make([]api.Instr, 200)) }},
		"globals":              {api.ErrLimit, func(m *api.Module) { m.Globals = make([]api.Global, 9) }},
		"data":                 {api.ErrLimit, func(m *api.Module) { m.Data = make([]api.Data, 9) }},
		"a small memory":       {api.ErrLimit, func(m *api.Module) { m.Mems[1] = 2 }},
		"a great memory":       {api.ErrLimit, func(m *api.Module) { m.Mems[0] = 13 }},
		"the least memory":     {api.ErrLimit, func(m *api.Module) { m.Mems[0] = math.MinInt }},
		"the greatest memory":  {api.ErrLimit, func(m *api.Module) { m.Mems[0] = math.MaxInt }},
		"a limit ahead of all": {api.ErrLimit, func(m *api.Module) { m.Mems[0], m.Imports[0], m.Funcs[0].Body = 13, -1, nil }},
		"results":              {api.ErrInvalid, func(m *api.Module) { m.Sigs[3].Results = []int{0, 0} }},
		"a parameter":          {api.ErrInvalid, func(m *api.Module) { m.Sigs[2].Params[0] = 4 }},
		"a result":             {api.ErrInvalid, func(m *api.Module) { m.Sigs[3].Results[0] = -1 }},
		"a local":              {api.ErrInvalid, func(m *api.Module) { m.Funcs[1].Locals[0] = math.MaxInt }},
		"a global":             {api.ErrInvalid, func(m *api.Module) { m.Globals[0].T = math.MinInt }},
		"a global's V":         {api.ErrInvalid, func(m *api.Module) { m.Globals[0].V = -1 }},
		"an instruction":       {api.ErrInvalid, func(m *api.Module) { m.Funcs[2].Body[0].Op = 0xff }},
		"an index below 0":     {api.ErrInvalid, func(m *api.Module) { m.Funcs[2].Body[0].N = -1 }},
		"an index too great":   {api.ErrInvalid, func(m *api.Module) { m.Funcs[2].Body[0].N = 1 << 32 }},
		"the least index":      {api.ErrInvalid, func(m *api.Module) { m.Funcs[2].Body[0].N = math.MinInt }},
		"the greatest index":   {api.ErrInvalid, func(m *api.Module) { m.Funcs[2].Body[0].N = math.MaxInt }},
		"a block of no type": {api.ErrInvalid, func(m *api.Module) {
			m.Funcs[2].Body = []api.Instr{{Op: api.Block, M: 5}, {Op: api.End}, {Op: api.End}}
		}},
		"a memory 2":            {api.ErrInvalid, func(m *api.Module) { m.Funcs[2].Body[0] = api.Instr{Op: api.I32Load, M: 2} }},
		"no body":               {api.ErrInvalid, func(m *api.Module) { m.Funcs[2].Body = nil }},
		"a body without End":    {api.ErrInvalid, func(m *api.Module) { m.Funcs[2].Body = body("Block, End") }},
		"a body that goes on":   {api.ErrInvalid, func(m *api.Module) { m.Funcs[2].Body = body("End, Nop, End") }},
		"an import's Sig":       {api.ErrInvalid, func(m *api.Module) { m.Imports[1] = 4 }},
		"an import's below 0":   {api.ErrInvalid, func(m *api.Module) { m.Imports[1] = -1 }},
		"an import's least":     {api.ErrInvalid, func(m *api.Module) { m.Imports[0] = math.MinInt }},
		"an import's greatest":  {api.ErrInvalid, func(m *api.Module) { m.Imports[0] = math.MaxInt }},
		"an import's great Sig": {api.ErrInvalid, func(m *api.Module) { m.Imports[0] = 1<<32 - 1 }},
		"a function's Sig":      {api.ErrInvalid, func(m *api.Module) { m.Funcs[2].Sig = 4 }},
		"a function's below 0":  {api.ErrInvalid, func(m *api.Module) { m.Funcs[0].Sig = -1 }},
		"a function's least":    {api.ErrInvalid, func(m *api.Module) { m.Funcs[0].Sig = math.MinInt }},
		"a function's greatest": {api.ErrInvalid, func(m *api.Module) { m.Funcs[0].Sig = math.MaxInt }},
		"no signatures":         {api.ErrInvalid, func(m *api.Module) { m.Sigs = nil }},
		"a datum too long":      {api.ErrInvalid, func(m *api.Module) { m.Data[0].At = 13 }},
		"a datum behind":        {api.ErrInvalid, func(m *api.Module) { m.Data[1] = api.Data{Mem: 1, At: 33} }},
		"a datum far behind":    {api.ErrInvalid, func(m *api.Module) { m.Data[1].At = 1<<32 - 1 }},
		"a datum below 0":       {api.ErrInvalid, func(m *api.Module) { m.Data[1].At = -1 }},
		"a datum at the least":  {api.ErrInvalid, func(m *api.Module) { m.Data[1].At = math.MinInt }},
		"a datum at the most":   {api.ErrInvalid, func(m *api.Module) { m.Data[1].At = math.MaxInt }},
		"a datum's memory":      {api.ErrInvalid, func(m *api.Module) { m.Mems[1] = 0 }},
		"an empty datum's":      {api.ErrInvalid, func(m *api.Module) { m.Mems[0], m.Data = 0, []api.Data{{}} }},
		"a datum's memory 2":    {api.ErrInvalid, func(m *api.Module) { m.Data[1].Mem = 2 }},
		"a datum's memory -1":   {api.ErrInvalid, func(m *api.Module) { m.Data[1].Mem = -1 }},
		"a datum ahead of code": {api.ErrInvalid, func(m *api.Module) { m.Data[0].At, m.Funcs[0].Body = 13, body("Drop, End") }},
	} {
		t.Run(name, func(t *testing.T) {
			m := world(nil, false, body("End"))
			holdFine(t, m)
			c.spoil(&m)
			holdError(t, m, c.code, 0)
		})
	}
}

func TestData(t *testing.T) {
	for mem, size := range []int{16, 32} {
		for at := range size + 3 {
			for n := range size + 3 {
				m := world(nil, false, body("End"))
				m.Data = append(m.Data, api.Data{Mem: mem, At: at, Bytes: strings.Repeat("x", n)})
				if at+n <= size {
					holdFine(t, m)
				} else {
					holdError(t, m, api.ErrInvalid, 0)
				}
			}
		}
	}
	for _, n := range []int{api.MinMem, api.MaxMem} {
		m := api.Module{Mems: [2]int{0, n}, Data: []api.Data{{Mem: 1, At: 1<<n - 1, Bytes: "x"}}}
		holdFine(t, m)
		m.Data[0].Bytes = "xx"
		holdError(t, m, api.ErrInvalid, 0)
	}
}

// TestLastSig: the last signature there is, and the next one.
func TestLastSig(t *testing.T) {
	for n := 1; n <= api.MaxSigs; n++ {
		m := api.Module{Sigs: make([]api.Sig, n), Imports: []int{n - 1}, Funcs: []api.Func{{Sig: n - 1, Body: body("Call 0, Call 1, End")}}}
		holdFine(t, m)
		m.Imports[0] = n
		holdError(t, m, api.ErrInvalid, 0)
		m.Imports[0], m.Funcs[0].Sig = 0, n
		holdError(t, m, api.ErrInvalid, 0)
	}
}

// TestWhichFunction: functions are asked one behind the other, each with its Spans first.
func TestWhichFunction(t *testing.T) {
	deep := closing(slices.Repeat(body("Block"), 9))
	for f := range api.MaxFuncs {
		m := api.Module{Sigs: []api.Sig{{}}, Funcs: slices.Repeat([]api.Func{{Body: body("Nop, End")}}, api.MaxFuncs)}
		for _, c := range []struct {
			l    []api.Instr
			code api.Errno
			at   int
		}{
			{body("Nop, Nop, Drop, End"), api.ErrInvalid, 2},
			{body("Drop, Else, End"), api.ErrInvalid, 0},
			{body("Nop, Drop, Else, End"), api.ErrInvalid, 0},
			{body("Nop, If, Else, Else, End, End"), api.ErrInvalid, 0},
			{deep, api.ErrLimit, 0},
			{slices.Concat(body("Drop"), deep), api.ErrLimit, 0},
			{slices.Concat(body("Nop"), slices.Repeat(body("I32Const 0"), 17), body("End")), api.ErrLimit, 17},
			{slices.Concat(slices.Repeat(body("Nop"), 198), body("Drop, End")), api.ErrInvalid, 198},
			{slices.Concat(slices.Repeat(body("Nop"), 198), body("I32Const 0, End")), api.ErrInvalid, 199},
		} {
			m.Funcs[f].Body = c.l
			holdError(t, m, c.code, 1000*f+c.at)
			// What is amiss behind it is not told, whatever it is.
			for behind := f + 1; behind < len(m.Funcs); behind++ {
				m.Funcs[behind].Body = body("Nop, Else, End")
			}
			holdError(t, m, c.code, 1000*f+c.at)
		}
	}
	m := api.Module{Sigs: []api.Sig{{}}, Funcs: []api.Func{{Body: closing(slices.Repeat(body("Block"), 8))}}}
	holdFine(t, m)
}

// P7.2

func TestStackLimit(t *testing.T) {
	full := slices.Repeat(body("I32Const 0"), api.MaxStack)
	drops := slices.Repeat(body("Drop"), api.MaxStack)
	fine := func(l ...[]api.Instr) {
		t.Helper()
		holdFine(t, world(nil, true, slices.Concat(slices.Concat(l...), drops, body("End"))))
	}
	over := func(l ...[]api.Instr) {
		t.Helper()
		whole := slices.Concat(l...)
		holdError(t, world(nil, true, closing(whole)), api.ErrLimit, from+len(whole)-1)
	}
	fine(full)
	for _, s := range []string{"Nop", "Block, End", "Loop, End", "LocalTee 0", "Classify, Declassify", "Drop, LocalGet 3", "I32Add, I32Const 0", "I32Load 0 0", "Drop, LocalGet 3, Call 0, LocalGet 2", "I32Eqz", "If, Else, End, I32Const 0", "Block, Unreachable, End", "BrIf 0, I32Const 0"} {
		fine(full, body(s))
	}
	for _, s := range []string{"I32Const 0", "I64Const 0", "LocalGet 0", "GlobalGet 3", "Call 2", "Block, I32Const 0", "I32Add, LocalGet 1, LocalGet 1", "Block, Loop, Block, I64Const 0"} {
		over(full, body(s))
	}
	// In a dead rest what is popped below the beginning was never counted, and what is pushed is.
	for _, s := range []string{"Block, Unreachable, I32Add", "Block, Unreachable, Classify", "Block, Unreachable, Declassify", "Block, Unreachable, Select", "Block, Unreachable, LocalTee 0", "Block, Unreachable, I32Load 0 0", "Block, Unreachable, Call 0", "Block I32, Unreachable, BrIf 0", "Block I32, Unreachable, End"} {
		over(full, body(s))
	}
	over(body("Unreachable"), full, body("I64Const 0"))
	fine(body("Unreachable"), full)
	// A rule that is broken is told first.
	for _, s := range []string{"LocalGet 4", "GlobalGet 4", "Call 5", "Block, I32Load 0 0", "I32Const 0, If I32, Unreachable, End"} {
		l := slices.Concat(full[1:], body(s))
		holdError(t, world(nil, true, closing(l)), api.ErrInvalid, from+len(l)-1)
	}
}

// TestKept: instructions, one behind the other, that keep their rules, and what they leave on the stack.
func TestKept(t *testing.T) {
	for s, left := range map[string]int{
		"":                            nothing,
		"Nop, Nop":                    nothing,
		"Unreachable":                 deadEnd,
		"I32Const 1":                  api.I32,
		"I64Const -1":                 api.I64,
		"Block, End":                  nothing,
		"Loop, End":                   nothing,
		"Block, Unreachable, End":     nothing,
		"Block I64, I64Const 1, End":  api.I64,
		"Block S64, I64Const 1, End":  api.S64,
		"Block S64, LocalGet 3, End":  api.S64,
		"Loop I32, LocalGet 0, End":   api.I32,
		"Loop S32, LocalGet 0, End":   api.S32,
		"Block S32, Unreachable, End": api.S32,
		"Block I32, Block I32, I32Const 1, End, End":              api.I32,
		"LocalGet 0, If, End":                                     nothing,
		"LocalGet 0, If, Nop, Else, Nop, End":                     nothing,
		"LocalGet 0, If I32, LocalGet 0, Else, I32Const 2, End":   api.I32,
		"LocalGet 0, If S32, LocalGet 0, Else, LocalGet 1, End":   api.S32,
		"LocalGet 0, If S64, LocalGet 3, Else, LocalGet 2, End":   api.S64,
		"LocalGet 0, If I32, Unreachable, Else, I32Const 2, End":  api.I32,
		"LocalGet 0, If I64, I64Const 1, Else, Unreachable, End":  api.I64,
		"LocalGet 0, If I64, Unreachable, Else, Unreachable, End": api.I64,
		"Block, Br 0, End":                                                  nothing,
		"Block I32, I32Const 1, Br 0, End":                                  api.I32,
		"Block S32, I32Const 1, Br 0, End":                                  api.S32,
		"Block I32, Block, I32Const 1, Br 1, End, Unreachable, End":         api.I32,
		"Block I32, Loop, I32Const 1, Br 1, End, Unreachable, End":          api.I32,
		"Block I32, I32Const 9, I64Const 1, I32Const 1, Br 0, End":          api.I32,
		"Loop, Br 0, End":                                                   nothing,
		"Loop I32, Br 0, End":                                               api.I32,
		"Loop I32, I64Const 1, Br 0, End":                                   api.I32,
		"Loop I32, I32Const 0, BrIf 0, I32Const 1, End":                     api.I32,
		"Block, I32Const 0, BrIf 0, End":                                    nothing,
		"Block I32, I32Const 1, I32Const 0, BrIf 0, End":                    api.I32,
		"Block S32, I32Const 1, I32Const 0, BrIf 0, End":                    api.S32,
		"Block S64, LocalGet 3, I32Const 0, BrIf 0, End":                    api.S64,
		"LocalGet 0, If I32, I32Const 1, Br 0, Else, I32Const 2, Br 0, End": api.I32,
		"LocalGet 0, If, Br 0, Else, Br 0, End":                             nothing,
		"I32Const 1, Drop":                                                  nothing,
		"I64Const 1, Drop":                                                  nothing,
		"LocalGet 1, Drop":                                                  nothing,
		"LocalGet 3, Drop":                                                  nothing,
		"Call 2":                                                            api.I64,
		"LocalGet 0, LocalGet 3, Call 0":                                    api.S32,
		"LocalGet 0, LocalGet 2, Call 0":                                    api.S32,
		"LocalGet 0, Call 1":                                                nothing,
		"LocalGet 1, Call 1":                                                nothing,
		"Unreachable, Call 0":                                               api.S32,
		"Unreachable, LocalGet 3, Call 0":                                   api.S32,
		"LocalGet 0, Classify":                                              api.S32,
		"LocalGet 1, Classify":                                              api.S32,
		"LocalGet 2, Classify":                                              api.S64,
		"LocalGet 3, Classify":                                              api.S64,
		"Unreachable, Classify":                                             anything,
		"Unreachable, Select":                                               anything,
		"Unreachable, Classify, Classify":                                   anything,
		// What is popped below the beginning comes as any, and is pushed again as what it is now.
		"Unreachable, I32Add":                       api.I32,
		"Unreachable, Drop, Drop":                   deadEnd,
		"Unreachable, LocalTee 3":                   api.S64,
		"Unreachable, I64Const 1, Drop, Drop":       deadEnd,
		"I64Const 1, Unreachable, I32Add":           api.I32,
		"LocalGet 1, Unreachable, I32Add":           api.I32,
		"Unreachable, LocalGet 1, I32Add":           api.S32,
		"Unreachable, I32Const 1, I32DivU":          api.I32,
		"Unreachable, I32Load 0 0":                  api.I32,
		"Unreachable, I64Load 1 0":                  api.S64,
		"Unreachable, I32Store 1 0":                 deadEnd,
		"Unreachable, If, End":                      deadEnd,
		"Unreachable, BrIf 0, Drop":                 deadEnd,
		"I32Const 4, Block, Unreachable, Drop, End": api.I32,
		"LocalGet 0, I64Const 1, Block, Unreachable, Drop, I32Add, Drop, End, I32Wrap, I32Add": api.I32,
		"Unreachable, Block I32, I32Const 1, End":                                              api.I32,
		"Block, Br 0, I32Add, Drop, End":                                                       nothing,
	} {
		holdLeft(t, body(s), false, left)
		holdLeft(t, body(s), true, left)
	}
	for s, left := range map[string]int{
		"LocalGet 0, Declassify":              api.I32,
		"LocalGet 1, Declassify":              api.I32,
		"LocalGet 2, Declassify":              api.I64,
		"LocalGet 3, Declassify":              api.I64,
		"Unreachable, Declassify":             anything,
		"Unreachable, Select, Declassify":     anything,
		"LocalGet 0, LocalGet 3, Call 4":      api.S32,
		"LocalGet 1, Declassify, If, End":     nothing,
		"LocalGet 1, Declassify, LocalSet 0":  nothing,
		"LocalGet 1, Declassify, I32Load 0 0": api.I32,
	} {
		holdLeft(t, body(s), true, left)
	}
}

// TestBroken: of each rule bodies whose last instruction breaks it.
func TestBroken(t *testing.T) {
	for _, s := range []string{
		"If", "I64Const 1, If", "LocalGet 1, If", "LocalGet 3, If", "I32Const 1, Classify, If",
		// A frame has nothing of what stood on the stack when it began.
		"I32Const 1, Block, Drop", "I32Const 1, Loop, I32Eqz", "LocalGet 0, LocalGet 0, If, Drop", "LocalGet 0, LocalGet 0, If, Else, Drop", "I32Const 1, Block, I32Const 1, I32Add",
		// It is not dead, whatever is around it.
		"Unreachable, Block, Drop", "Unreachable, Loop, I32Add", "Unreachable, If, Drop", "Unreachable, If, Else, Drop", "LocalGet 0, If, Unreachable, Else, Drop", "Block, Unreachable, End, Drop", "Block, Br 0, End, I32Eqz", "LocalGet 0, If, Unreachable, Else, Unreachable, End, Drop",
		"LocalGet 0, If I32, Else", "LocalGet 0, If I32, I64Const 1, Else", "LocalGet 0, If I32, LocalGet 1, Else", "LocalGet 0, If, I32Const 1, Else", "LocalGet 0, If I32, I32Const 1, I32Const 1, Else",
		"LocalGet 0, If, Unreachable, I32Const 1, Else", "LocalGet 0, If I32, Unreachable, I32Const 1, I32Const 1, Else", "LocalGet 0, If I32, Unreachable, I64Const 1, Else",
		"Block I32, End", "Block, I32Const 1, End", "Block I32, LocalGet 1, End", "Block I32, I64Const 0, End", "Block S64, LocalGet 1, End", "Loop I64, End", "Loop, I32Const 1, End", "I32Const 1, Block I32, End", "Block I32, I32Const 1, I32Const 1, End",
		"Block, Unreachable, I32Const 1, End", "Block I32, Unreachable, I64Const 1, End", "Block I32, Unreachable, LocalGet 1, End", "Block S32, Br 0",
		"LocalGet 0, If I32, I32Const 1, End", "LocalGet 0, If I32, Unreachable, End", "LocalGet 0, If S64, End", "LocalGet 0, If I32, I32Const 1, Else, End", "LocalGet 0, If I32, I32Const 1, Else, LocalGet 1, End", "LocalGet 0, If, Else, I32Const 1, End",
		// What a frame brings is what it says, not what was popped.
		"Block S32, I32Const 1, End, If", "LocalGet 0, If S32, I32Const 1, Else, I32Const 1, End, If", "Block S32, Unreachable, End, If",
		"Br 1", "Br 4294967295", "Block, Br 2", "Block, Loop, Br 3", "Block, End, Br 1", "Block I32, Br 0", "Block I32, LocalGet 1, Br 0", "Block I32, I64Const 1, Br 0", "Block I32, Block, Br 1", "Block I32, I32Const 1, Block, Br 1", "Block I32, Loop, Br 1", "LocalGet 0, If I32, Br 0", "Unreachable, Br 1",
		"BrIf 0", "LocalGet 1, BrIf 0", "I64Const 1, BrIf 0", "I32Const 1, BrIf 1", "I32Const 1, BrIf 4294967295", "Block I32, I32Const 1, BrIf 0", "Block I32, LocalGet 1, I32Const 1, BrIf 0", "Block I32, I64Const 1, I32Const 1, BrIf 0", "Loop, LocalGet 1, BrIf 0", "Block S32, I32Const 1, I32Const 1, BrIf 0, If", "Unreachable, BrIf 1",
		// A BrIf leaves its frame alive.
		"I32Const 1, BrIf 0, Drop",
		"Call 5", "Call 4294967295", "Unreachable, Call 5", "LocalGet 0, LocalGet 3, Call 4", "Unreachable, Call 4", "Call 1", "LocalGet 3, Call 0", "LocalGet 1, LocalGet 3, Call 0", "LocalGet 0, LocalGet 1, Call 0", "LocalGet 3, LocalGet 0, Call 0", "LocalGet 2, Call 1", "LocalGet 0, LocalGet 3, Call 0, If", "Call 3",
		"Drop", "I32Const 1, Drop, Drop",
		"Select", "I32Const 1, Select", "I32Const 1, I32Const 1, Select",
		"LocalGet 4", "LocalGet 4294967295", "I32Const 1, LocalSet 4", "I32Const 1, LocalTee 4", "LocalSet 0", "LocalTee 0", "I32Const 1, LocalSet 4294967295", "Unreachable, LocalGet 4", "Unreachable, LocalSet 4", "Unreachable, LocalTee 4", "LocalGet 0, LocalTee 1, If",
		"GlobalGet 4", "GlobalGet 4294967295", "I32Const 1, GlobalSet 4", "I32Const 1, GlobalSet 4294967295", "GlobalSet 0", "Unreachable, GlobalGet 4", "Unreachable, GlobalSet 4",
		"I32Load 0 0", "I64Load 1 0", "I32Store 0 0", "I64Store 1 0", "I32Const 1, I32Store 0 0", "I64Const 1, I64Store 0 0",
		"Classify", "Declassify", "LocalGet 0, Declassify", "LocalGet 1, Declassify", "Unreachable, Declassify",
		"I32Eqz", "I32Add", "I32Const 1, I32Add", "I32Wrap", "I64ExtendU",
		"LocalGet 1, I32Const 1, I32DivU", "I32Const 1, LocalGet 1, I32DivU", "LocalGet 1, I32Const 1, I32RemS", "I64Const 1, LocalGet 3, I64DivS",
	} {
		holdBroken(t, body(s), false)
	}
	for _, s := range []string{"Declassify", "Call 4", "LocalGet 1, If", "Call 5", "LocalGet 1, I32Load 0 0", "LocalGet 1, LocalSet 0", "LocalGet 3, LocalGet 3, I64DivS"} {
		holdBroken(t, body(s), true)
	}
}

// TestLast: in a module as great as may be, the last local, global, function and depth, and the next one.
func TestLast(t *testing.T) {
	m := api.Module{
		Sigs:    []api.Sig{{}, {Params: make([]int, api.MaxParams)}},
		Imports: make([]int, api.MaxImports),
		Funcs:   slices.Repeat([]api.Func{{Body: body("End")}}, api.MaxFuncs),
		Globals: make([]api.Global, api.MaxGlobals),
	}
	const f = api.MaxFuncs - 1
	m.Funcs[f] = api.Func{Sig: 1, Locals: make([]int, api.MaxLocals)}
	deepest := slices.Repeat(body("Block"), api.MaxNest)
	for _, c := range []struct {
		l    []api.Instr
		x    api.Instr
		last int
	}{
		{nil, api.Instr{Op: api.LocalGet}, api.MaxParams + api.MaxLocals - 1},
		{body("I32Const 0"), api.Instr{Op: api.LocalSet}, api.MaxParams + api.MaxLocals - 1},
		{body("I32Const 0"), api.Instr{Op: api.LocalTee}, api.MaxParams + api.MaxLocals - 1},
		{nil, api.Instr{Op: api.GlobalGet}, api.MaxGlobals - 1},
		{body("I32Const 0"), api.Instr{Op: api.GlobalSet}, api.MaxGlobals - 1},
		{slices.Repeat(body("I32Const 0"), api.MaxParams), api.Instr{Op: api.Call}, api.MaxImports + f},
		{deepest, api.Instr{Op: api.Br}, api.MaxNest},
		{slices.Concat(deepest, body("I32Const 0")), api.Instr{Op: api.BrIf}, api.MaxNest},
		{nil, api.Instr{Op: api.Br}, 0},
	} {
		for _, n := range []int{0, c.last, c.last + 1, 1<<32 - 1} {
			c.x.N = n
			m.Funcs[f].Body = closing(slices.Concat(c.l, []api.Instr{c.x}, body("Return")))
			if n <= c.last {
				holdFine(t, m)
			} else {
				holdError(t, m, api.ErrInvalid, 1000*f+len(c.l))
			}
		}
	}
}

// TestReturned: what hangs on what the signature brings.
func TestReturned(t *testing.T) {
	one := func(n int) []int { return []int{n} }
	for _, c := range []struct {
		results []int
		l       string
		at      int // -1: it may be
	}{
		{nil, "Return, End", -1},
		{nil, "Return, Drop, End", -1},
		{nil, "I32Const 1, Return, End", -1},
		{nil, "Return, I32Const 1, End", 2},
		{one(api.I32), "Return, End", 0},
		{one(api.I32), "I32Const 1, Return, End", -1},
		{one(api.I32), "I64Const 1, I32Const 1, Return, End", -1},
		{one(api.I32), "I64Const 1, Return, End", 1},
		{one(api.I32), "LocalGet 1, Return, End", 1},
		{one(api.S32), "LocalGet 1, Return, End", -1},
		{one(api.S32), "LocalGet 0, Return, End", -1},
		{one(api.S64), "Block, LocalGet 2, Return, End, LocalGet 3, End", -1},
		{one(api.S64), "Block, LocalGet 2, Return, End, End", 4},
		{one(api.S64), "Block S64, Return, End, End", 1},
		{nil, "Block I32, Return, End, Drop, End", -1},
		{nil, "Br 0, End", -1},
		{nil, "Br 0, Drop, End", -1},
		{one(api.I32), "Br 0, End", 0},
		{one(api.I32), "I32Const 1, Br 0, End", -1},
		{one(api.I32), "LocalGet 1, Br 0, End", 1},
		{one(api.I32), "Block, I32Const 1, Br 1, End, I32Const 2, End", -1},
		{one(api.I32), "Loop, I32Const 1, Br 1, End, I32Const 2, End", -1},
		{one(api.I32), "Loop, I32Const 1, Br 1, End, End", 4},
		{one(api.I32), "Block, Br 1, End, I32Const 2, End", 1},
		{one(api.I32), "I32Const 1, Block, Br 1, End, End", 2},
		{one(api.I32), "I32Const 1, Block, Br 2, End, End", 2},
		{nil, "Block, Loop, I32Const 0, If, Br 3, Else, Br 2, End, Br 1, End, End, End", -1},
		{one(api.S32), "I32Const 1, LocalGet 0, BrIf 0, End", -1},
		{one(api.S32), "I32Const 1, LocalGet 0, BrIf 0, I32Const 5, I32DivU, End", 4},
		{one(api.S32), "I32Const 1, I32Const 5, I32DivU, LocalGet 0, BrIf 0, End", -1},
		{one(api.S32), "LocalGet 0, BrIf 0, LocalGet 0, End", 1},
		{one(api.S32), "LocalGet 0, LocalGet 1, BrIf 0, End", 2},
		// Its own function is the one behind the host's and the first; it may call itself.
		{one(api.S32), "LocalGet 0, LocalGet 1, Call 3, End", -1},
		{one(api.S32), "LocalGet 1, LocalGet 0, Call 3, End", 2},
	} {
		m := world(c.results, false, body(c.l))
		before := t.Failed()
		if c.at < 0 {
			holdFine(t, m)
		} else {
			holdError(t, m, api.ErrInvalid, from+c.at)
		}
		if t.Failed() && !before {
			t.Errorf("%s, if it brings %v", c.l, c.results)
		}
	}
	// A trusted function may be called by its like alone, itself too.
	m := world([]int{api.S32}, true, body("LocalGet 0, LocalGet 1, Call 3, LocalGet 3, LocalGet 3, Drop, Drop, End"))
	holdFine(t, m)
	m.Funcs[0] = api.Func{Sig: 3, Body: body("I32Const 1, I32Const 1, Call 3, Unreachable, End")}
	holdError(t, m, api.ErrInvalid, 2)
	m.Funcs[0].Trusted = true
	holdFine(t, m)
}

// operands are instructions that leave these on the stack; any can stand only below all others.
func operands(list ...int) (l []api.Instr, can bool) {
	for i, t := range list {
		if t == anything {
			if i > 0 && list[i-1] != anything {
				return nil, false
			}
			continue
		}
		l = append(l, api.Instr{Op: api.LocalGet, N: cell(t)})
	}
	if slices.Contains(list, anything) {
		l = append(body("Unreachable"), l...)
	}
	return l, true
}

// holdRule holds, of x with these operands, that it breaks a rule or what it leaves.
func holdRule(t *testing.T, list []int, x api.Instr, may bool, left int) {
	t.Helper()
	l, can := operands(list...)
	if !can {
		return
	}
	l = append(l, x)
	if !may {
		holdBroken(t, l, false)
		return
	}
	if left == nothing && slices.Contains(list, anything) {
		left = deadEnd
	}
	holdLeft(t, l, false, left)
}

func flows(from, to int) bool { return from == anything || label.Flows(from, to) }

func isSecret(list ...int) bool {
	return slices.ContainsFunc(list, label.Secret)
}

func ofWidth(wide bool, list ...int) bool {
	return !slices.ContainsFunc(list, func(t int) bool { return t != anything && label.Wide(t) != wide })
}

// TestCells: whatever is brought to whatever cell.
func TestCells(t *testing.T) {
	for to := range 4 {
		n := cell(to)
		holdRule(t, nil, api.Instr{Op: api.LocalGet, N: n}, true, to)
		holdRule(t, nil, api.Instr{Op: api.GlobalGet, N: n}, true, to)
		for v := anything; v < 4; v++ {
			holdRule(t, []int{v}, api.Instr{Op: api.LocalSet, N: n}, flows(v, to), nothing)
			holdRule(t, []int{v}, api.Instr{Op: api.LocalTee, N: n}, flows(v, to), to)
			holdRule(t, []int{v}, api.Instr{Op: api.GlobalSet, N: n}, flows(v, to), nothing)
		}
	}
}

// TestMemories: both memories, at whatever address, with whatever value.
func TestMemories(t *testing.T) {
	for mem := range 2 {
		for _, offset := range []int{0, 15, 31, 4096, 1<<32 - 1} {
			for a := anything; a < 4; a++ {
				for i, op := range []int{api.I32Load, api.I64Load} {
					holdRule(t, []int{a}, api.Instr{Op: op, N: offset, M: mem}, flows(a, api.I32), label.Of(i == 1, mem == 1))
				}
				if offset != 0 {
					continue
				}
				for v := anything; v < 4; v++ {
					for i, op := range []int{api.I32Store, api.I64Store} {
						may := flows(a, api.I32) && flows(v, label.Of(i == 1, mem == 1))
						holdRule(t, []int{a, v}, api.Instr{Op: op, M: mem}, may, nothing)
					}
				}
			}
		}
	}
}

// TestMissingMemories: what is of a memory that is not there.
func TestMissingMemories(t *testing.T) {
	for there := range 4 {
		for mem := range 2 {
			for _, s := range []string{"I32Const 0, I32Load", "I32Const 0, I64Load", "I32Const 0, I32Const 0, I32Store", "I32Const 0, I64Const 0, I64Store", "Unreachable, I32Load", "Unreachable, I64Store"} {
				l := body(s)
				l[len(l)-1].M = mem
				m := world(nil, false, closing(append(l, body("Unreachable")...)))
				m.Mems, m.Data = [2]int{there & 1 * 3, there >> 1 * 12}, nil
				if there>>mem&1 == 1 {
					holdFine(t, m)
				} else {
					holdError(t, m, api.ErrInvalid, from+len(l)-1)
				}
			}
		}
	}
}

// TestSelect: any two, chosen by any.
func TestSelect(t *testing.T) {
	for a := anything; a < 4; a++ {
		for b := anything; b < 4; b++ {
			for by := anything; by < 4; by++ {
				left := anything
				if a != anything || b != anything {
					left = label.Of(label.Wide(a) || label.Wide(b), isSecret(a, b, by))
				}
				may := ofWidth(false, by) && (ofWidth(false, a, b) || ofWidth(true, a, b))
				holdRule(t, []int{a, b, by}, api.Instr{Op: api.Select}, may, left)
			}
		}
	}
}

// TestWords: each instruction that reckons, of whatever it is given.
func TestWords(t *testing.T) {
	seen := 0
	for op := range 256 {
		n, width, to, ok := word.Arity(op)
		if !ok {
			continue
		}
		seen++
		name := op
		if op >= api.I64Add && op <= api.I64Rotr {
			name = op - api.I64Add + api.I32Add
		}
		publicOnly := name >= api.I32DivS && name <= api.I32RemU
		for a := anything; a < 4; a++ {
			for b := anything; b < 4; b++ {
				list := []int{a, b}[2-n:]
				may := ofWidth(width == 1, list...) && !(publicOnly && isSecret(list...))
				holdRule(t, list, api.Instr{Op: op}, may, label.Of(to == 1, isSecret(list...)))
			}
		}
	}
	if seen != 55 {
		t.Error("instructions that reckon:", seen)
	}
}

// P7.3

func TestHeights(t *testing.T) {
	for _, c := range []struct {
		results []int
		l       string
		want    []int
	}{
		{nil, "End", []int{0}},
		{nil, "Unreachable, I32Add, Drop, End", []int{0, -1, -1, -1}},
		{nil, "Nop, I32Const 1, I64Const 1, Drop, Drop, End", []int{0, 0, 1, 2, 1, 0}},
		{[]int{api.S64}, "LocalGet 3, End", []int{0, 1}},
		{[]int{api.S64}, "I32Const 1, I64Const 2, Return, Nop, End", []int{0, 1, 2, -1, -1}},
		{[]int{api.I32}, "I32Const 9, Block I32, I32Const 1, End, I32Add, End", []int{0, 1, 1, 2, 2, 1}},
		// A dead frame within one that is not.
		{nil, "I32Const 9, Block, Br 0, Nop, End, Drop, End", []int{0, 1, 1, -1, -1, 1, 0}},
		{nil, "I32Const 9, Block I32, Unreachable, End, Drop, Drop, End", []int{0, 1, 1, -1, 2, 1, 0}},
		{nil, "Block, Block, Br 1, End, Nop, End, End", []int{0, 0, 0, -1, 0, 0, 0}},
		// Dead frames one within the other.
		{nil, "Br 0, Block, Nop, Br 0, Nop, End, Nop, End", []int{0, -1, -1, -1, -1, -1, -1, -1}},
		{nil, "Block, Unreachable, Block, End, Nop, End, Nop, End", []int{0, 0, -1, -1, -1, -1, 0, 0}},
		{nil, "Unreachable, I32Const 1, If, Nop, Else, Nop, End, End", []int{0, -1, -1, -1, -1, -1, -1, -1}},
		// An If of which one side or both are dead.
		{nil, "I64Const 1, LocalGet 0, If, Unreachable, Nop, Else, Nop, End, Drop, End", []int{0, 1, 2, 1, -1, -1, 1, 1, 1, 0}},
		{nil, "I64Const 1, LocalGet 0, If, Nop, Else, Unreachable, Nop, End, Drop, End", []int{0, 1, 2, 1, 1, 1, -1, -1, 1, 0}},
		{nil, "LocalGet 0, If I32, I32Const 1, Br 0, Else, Return, End, Drop, End", []int{0, 1, 0, 1, -1, 0, -1, 1, 0}},
		{[]int{api.I32}, "LocalGet 0, If I32, I32Const 1, Else, I32Const 2, End, End", []int{0, 1, 0, 1, 0, 1, 1}},
		// Of what comes and goes.
		{nil, "Loop, LocalGet 0, BrIf 0, End, End", []int{0, 0, 1, 0, 0}},
		{[]int{api.S32}, "LocalGet 0, LocalGet 0, BrIf 0, End", []int{0, 1, 2, 1}},
		{nil, "LocalGet 0, LocalTee 1, LocalSet 1, GlobalGet 3, GlobalSet 3, End", []int{0, 1, 1, 0, 1, 0}},
		{nil, "LocalGet 0, LocalGet 2, Call 0, Call 1, Call 2, Drop, End", []int{0, 1, 2, 1, 0, 1, 0}},
		{nil, "LocalGet 0, LocalGet 0, LocalGet 1, Select, Classify, Drop, End", []int{0, 1, 2, 3, 1, 1, 0}},
		{nil, "I32Const 0, I32Load 0 0, I64Load 1 0, Drop, I32Const 0, I64Const 0, I64Store 0 0, End", []int{0, 1, 1, 1, 0, 1, 2, 0}},
		{nil, "I32Const 0, I32Eqz, I64ExtendU, I64Const 1, I64Add, I32Wrap, Drop, End", []int{0, 1, 1, 1, 2, 1, 1, 0}},
	} {
		m := world(c.results, false, body(c.l))
		if got, err := valid.Heights(m, asked); !slices.Equal(got, c.want) || err != nil {
			t.Errorf("Heights of %s: %v, %v; want %v", c.l, got, err, c.want)
		}
		for f, want := range map[int][]int{0: {0, 1}, 2: {0, 1, 1, 1, 1}} {
			if got, err := valid.Heights(m, f); !slices.Equal(got, want) || err != nil {
				t.Errorf("Heights of function %d: %v, %v; want %v", f, got, err, want)
			}
		}
		holdAgainst(t, m)
	}
}

// TestHighest: as many values as may be, ahead of an instruction.
func TestHighest(t *testing.T) {
	l := slices.Concat(slices.Repeat(body("I32Const 0"), api.MaxStack), slices.Repeat(body("Drop"), api.MaxStack), body("End"))
	want := make([]int, len(l))
	for i := range want {
		want[i] = min(i, 2*api.MaxStack-i)
	}
	if got, err := valid.Heights(world(nil, false, l), asked); !slices.Equal(got, want) || err != nil {
		t.Error(got, err)
	}
}

// Callee

func holdCallee(t *testing.T, m api.Module, n int, want api.Sig, host, trusted, ok bool) {
	t.Helper()
	s, h, tr, k := valid.Callee(m, n)
	if !slices.Equal(s.Params, want.Params) || !slices.Equal(s.Results, want.Results) || h != host || tr != trusted || k != ok {
		t.Errorf("Callee %d: %v, %v, %v, %v; want %v, %v, %v, %v", n, s, h, tr, k, want, host, trusted, ok)
	}
}

// noCallees holds that there is none of these.
func noCallees(t *testing.T, m api.Module, list ...int) {
	t.Helper()
	for _, n := range list {
		holdCallee(t, m, n, api.Sig{}, false, false, false)
	}
}

func TestCallee(t *testing.T) {
	m := world([]int{api.S64}, true, nil)
	holdCallee(t, m, 0, m.Sigs[0], true, false, true)
	holdCallee(t, m, 1, m.Sigs[2], true, false, true)
	holdCallee(t, m, 2, m.Sigs[3], false, false, true)
	holdCallee(t, m, 3, m.Sigs[1], false, true, true)
	holdCallee(t, m, 4, m.Sigs[0], false, true, true)
	far := []int{math.MinInt, math.MinInt + 1, -1 << 32, -1, 1 << 32, math.MaxInt - 1, math.MaxInt}
	noCallees(t, m, append(far, 5, 6)...)
	noCallees(t, api.Module{}, append(far, 0, 1)...)

	m.Imports = nil
	holdCallee(t, m, 0, m.Sigs[3], false, false, true)
	holdCallee(t, m, 2, m.Sigs[0], false, true, true)
	noCallees(t, m, append(far, 3)...)
	m.Imports, m.Funcs = []int{3}, nil
	holdCallee(t, m, 0, m.Sigs[3], true, false, true)
	noCallees(t, m, append(far, 1)...)
}

// TestCalleeWithoutSig: one whose signature is not there, and those beside it.
func TestCalleeWithoutSig(t *testing.T) {
	for _, sig := range []int{math.MinInt, -1, 4, 5, 1 << 32, math.MaxInt} {
		m := world(nil, true, nil)
		m.Imports[1], m.Funcs[1].Sig = sig, sig
		noCallees(t, m, 1, 3)
		holdCallee(t, m, 0, m.Sigs[0], true, false, true)
		holdCallee(t, m, 2, m.Sigs[3], false, false, true)
		holdCallee(t, m, 4, m.Sigs[0], false, true, true)
	}
}

// P3, P4

// copied is m anew, with room behind each list that nobody may write into; marks is that room.
func copied(m api.Module) (c api.Module, marks func() []int) {
	var rooms [][]int
	room := func(l []int) []int {
		r := append(slices.Clone(l), 77, 78)
		rooms = append(rooms, r)
		return r[:len(l)]
	}
	c = m
	c.Imports = room(m.Imports)
	c.Sigs = slices.Clone(m.Sigs)
	for i, s := range c.Sigs {
		c.Sigs[i] = api.Sig{Params: room(s.Params), Results: room(s.Results)}
	}
	c.Funcs = slices.Clone(m.Funcs)
	for i, f := range c.Funcs {
		c.Funcs[i].Locals, c.Funcs[i].Body = room(f.Locals), slices.Clone(f.Body)
	}
	c.Globals, c.Data = slices.Clone(m.Globals), slices.Clone(m.Data)
	return c, func() []int { return slices.Concat(rooms...) }
}

func sameModule(a, b api.Module) bool {
	sigs := func(a, b api.Sig) bool {
		return slices.Equal(a.Params, b.Params) && slices.Equal(a.Results, b.Results)
	}
	funcs := func(a, b api.Func) bool {
		return a.Sig == b.Sig && a.Trusted == b.Trusted && slices.Equal(a.Locals, b.Locals) && slices.Equal(a.Body, b.Body)
	}
	return slices.EqualFunc(a.Sigs, b.Sigs, sigs) && slices.EqualFunc(a.Funcs, b.Funcs, funcs) && slices.Equal(a.Imports, b.Imports) &&
		a.Mems == b.Mems && slices.Equal(a.Globals, b.Globals) && slices.Equal(a.Data, b.Data)
}

// scribble writes all over a list, its spare room too.
func scribble(l []int) {
	l = l[:cap(l)]
	for i := range l {
		l[i] = 99
	}
}

func TestNothingIsShared(t *testing.T) {
	for _, s := range []string{"LocalGet 0, LocalGet 3, Call 0, LocalTee 1, End", "LocalGet 1, If, End, LocalGet 1, End"} {
		m := world([]int{api.S32}, false, body(s))
		c, marks := copied(m)
		before := marks()
		want := verdictFrom(c)
		first, _ := valid.Heights(c, asked)
		second, _ := valid.Heights(c, asked)
		scribble(first)
		if want.heights != nil && !slices.Equal(second, want.heights[asked]) {
			t.Error("heights are shared:", second)
		}
		for n := range 5 {
			one, _, _, _ := valid.Callee(c, n)
			two, _, _, _ := valid.Callee(c, n)
			scribble(one.Params)
			scribble(one.Results)
			holdCallee(t, m, n, two, n < 2, n == 4, true)
		}
		if !sameModule(m, c) || !slices.Equal(before, marks()) {
			t.Error("what was handed in is written into")
		}
		if got := verdictFrom(c); !alike(got, want) {
			t.Error("another answer of the same:", got, want)
		}
	}
}
