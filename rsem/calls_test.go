package rsem_test

import (
	"math"
	"slices"
	"strings"
	"testing"

	"oubliette/api"
)

// P15.1: calls.

func TestCalls(t *testing.T) {
	const weigh = "I32Const 1, I32Const 2, I32Const 3, I32Const 4, " + ownWeigh
	holdBody(t, one(api.I32), weigh+", End", 4321, 0, 4+weighSteps+1)
	holdBody(t, one(api.I32), "I32Const 5, "+weigh+", I32Sub, End", 1<<32-4316, 0, 4+weighSteps+3)
	// The caller's cells stay, and each call has its own.
	holdBody(t, one(api.I32), weigh+", Drop, LocalGet 0, End", 7, 0, 4+weighSteps+2)
	holdBody(t, one(api.I64), ownLocals+", "+ownLocals+", I64Add, "+ownLocals+", I64Add, End", 0, 0, 3*localsSteps+3)
	holdBody(t, one(api.I64), "I64Const 4, "+ownSum+", End", 10, 0, 3+4*13+7+1)
	m := world(one(api.I32), "I32Const 3, Classify, "+ownMark+", GlobalGet 1, Declassify, End")
	want := untouched(m)
	want.V, want.Steps, want.Globals[1] = 3, worldLocals+1+markSteps+2, 3
	holdRun(t, m, api.Script{Args: []int{7, -9}}, want)
	// What is run first may be any function.
	want = untouched(m)
	want.V, want.Steps = 8765, 14
	holdRun(t, m, api.Script{Func: 1, Args: []int{5, 6, 7, 8}}, want)
}

// TestACallWithFewerArguments: what a call ahead of it left in the argument cells is none of its business.
func TestACallWithFewerArguments(t *testing.T) {
	m := world(one(api.I64), "I32Const 1, I32Const 2, I32Const 3, I32Const 4, "+ownWeigh+", Drop, I64Const 1, "+ownSum+", "+ownLocals+", I64Add, End")
	want := untouched(m)
	want.V, want.Steps = 1, worldLocals+4+weighSteps+3+13+7+localsSteps+2
	holdRun(t, m, api.Script{Args: []int{7, -9}}, want)
}

func TestCallsOfOneAnother(t *testing.T) {
	// Whether a number is even: by the one that asks whether the number ahead of it is odd.
	m := alone(one(api.I32), one(api.I32), "LocalGet 0, I32Eqz, If I32, I32Const 1, Else, LocalGet 0, I32Const 1, I32Sub, Call 1, End, End")
	m.Funcs = append(m.Funcs, api.Func{Body: body("LocalGet 0, I32Eqz, If, I32Const 0, Return, End, LocalGet 0, I32Const 1, I32Sub, Call 0, End")})
	for n, even := range []int{1, 0, 1, 0, 1, 0} {
		evens, odds := (n+1)/2, n/2 // calls that call on
		last := 7
		if even == 0 {
			last = 5
		}
		holdRun(t, m, api.Script{Args: one(n)}, api.Outcome{V: even, Steps: evens*11 + odds*10 + last})
	}
}

func TestAsManyCallsWithinOneAnotherAsThereMayBe(t *testing.T) {
	m := world(one(api.I64), "LocalGet 1, "+ownSum+", End")
	want := untouched(m)
	want.V, want.Steps = 38*39/2, worldLocals+3+38*13+7+1
	holdRun(t, m, api.Script{Args: []int{7, 38}}, want)
	want.V, want.Trap, want.Steps = 0, api.TrapDepth, worldLocals+3+39*9
	for _, n := range []int{39, 40, 41, -1, math.MaxInt} {
		holdRun(t, m, api.Script{Args: []int{7, n}}, want)
	}
	want = untouched(m)
	want.V, want.Steps = 39*40/2, 39*13+7
	holdRun(t, m, api.Script{Func: 2, Args: one(39)}, want)
	want.V, want.Trap, want.Steps = 0, api.TrapDepth, 40*9
	holdRun(t, m, api.Script{Func: 2, Args: one(40)}, want)
}

func TestCallsThatHaveEndedCountNoMore(t *testing.T) {
	m := world(nil, "Loop, LocalGet 2, "+ownMark+", LocalGet 0, I32Const 1, I32Sub, LocalTee 0, BrIf 0, End, End")
	want := untouched(m)
	want.Steps, want.Globals[1] = worldLocals+100*(2+markSteps+5)+1, 0
	holdRun(t, m, api.Script{Args: []int{100, 0}}, want)
}

func TestAHostCallIsNoneOfTheCallsWithinOneAnother(t *testing.T) {
	m := alone(one(api.I32), nil, "LocalGet 0, If, LocalGet 0, I32Const 1, I32Sub, Call 1, Else, Call 0, End, End")
	m.Sigs = append(m.Sigs, api.Sig{})
	m.Imports = one(1)
	x := api.Script{Args: one(39), Answers: make([]api.Answer, 1)}
	holdRun(t, m, x, api.Outcome{Calls: make([]api.HostCall, 1), Steps: 39*10 + 6})
	x.Args = one(40)
	holdRun(t, m, x, api.Outcome{Trap: api.TrapDepth, Steps: 40 * 7})
}

func TestATrapWithinCallsEndsAll(t *testing.T) {
	m := alone(one(api.I32), one(api.I32), "LocalGet 0, If I32, LocalGet 0, I32Const 1, I32Sub, Call 0, GlobalGet 0, I32Const 1, I32Add, GlobalSet 0, Else, I32Const 5, GlobalSet 0, Unreachable, End, End")
	m.Globals = []api.Global{{}}
	for n := range 40 {
		holdRun(t, m, api.Script{Args: one(n)}, api.Outcome{Trap: api.TrapStop, Globals: one(5), Steps: n*7 + 6})
	}
}

// P15.1: the host.

func TestHostCalls(t *testing.T) {
	m := world(one(api.I64), "I32Const 5, LocalGet 1, "+hostBoth+", LocalGet 0, LocalGet 3, "+hostBoth+", I32Sub, I32Const -1, "+hostNone+", "+hostWide+", LocalSet 1, I64ExtendU, LocalGet 1, I64Sub, End")
	x := api.Script{Args: []int{7, -9}, Answers: []api.Answer{{V: 1}, {V: 3}, {}, {V: -4}, {V: 99}}}
	want := untouched(m)
	want.V, want.Steps = 1<<32-2+4, worldLocals+15+2+2+1
	want.Calls = slices.Concat(hostCalls(0, []int{5, -9}, []int{7, 0}), hostCalls(2, []int{1<<32 - 1}), hostCalls(1, nil))
	holdRun(t, m, x, want)
}

func TestTheFirstParameterIsFirst(t *testing.T) {
	m := alone(nil, one(api.I32), "I32Const 9, I32Const 1, I64Const -2, I32Const -3, I64Const 4, Call 1, I32Sub, End")
	m.Sigs = append(m.Sigs, api.Sig{}, api.Sig{Params: []int{api.I32, api.I64, api.S32, api.S64}, Results: one(api.I32)})
	m.Imports = []int{1, 2}
	want := api.Outcome{V: 3, Steps: 12, Calls: hostCalls(1, []int{1, -2, 1<<32 - 3, 4})}
	holdRun(t, m, api.Script{Answers: []api.Answer{{V: 6}}}, want)
}

func TestHostCallsOfInnerFunctions(t *testing.T) {
	m := alone(nil, nil, "I32Const 1, Call 0, Call 2, I32Const 3, Call 0, End")
	m.Sigs = append(m.Sigs, api.Sig{Params: one(api.I32)})
	m.Imports = one(1)
	m.Funcs = append(m.Funcs, api.Func{Body: body("I32Const 2, Call 0, End")})
	holdRun(t, m, api.Script{Answers: make([]api.Answer, 3)}, api.Outcome{Steps: 12, Calls: hostCalls(0, one(1), one(2), one(3))})
	holdRun(t, m, api.Script{Answers: make([]api.Answer, 1)}, api.Outcome{Steps: 7, Trap: api.TrapScript, Calls: hostCalls(0, one(1), one(2))})
}

// asking is a module whose function calls the host once, between what changes a global and a memory, and brings what that brings.
func asking(results []int) api.Module {
	m := alone(nil, results, "I32Const 1, GlobalSet 0, I32Const 0, I32Const 65, I32Store 0 0, Call 0, I32Const 2, GlobalSet 0, End")
	m.Imports = one(0)
	m.Mems = [2]int{3, 3}
	m.Globals = []api.Global{{}}
	return m
}

func TestAnswersOfEachWidth(t *testing.T) {
	narrow := []int{0, 1, 1<<31 - 1, 1 << 31, 1<<32 - 1}
	for _, c := range []struct {
		results []int
		fine    []int
		wrong   []int
	}{
		{nil, []int{0}, append(outsides(), 1, 2, 1<<32-1)},
		{one(api.I32), narrow, outsides()},
		{one(api.S32), narrow, outsides()},
		{one(api.I64), append(outsides(), narrow...), nil},
		{one(api.S64), append(outsides(), narrow...), nil},
	} {
		m := asking(c.results)
		const stored, nought = "A\x00\x00\x00\x00\x00\x00\x00", "\x00\x00\x00\x00\x00\x00\x00\x00"
		writes := []api.Write{{Mem: 1, At: 7, Bytes: "z"}}
		for _, v := range c.fine {
			x := api.Script{Answers: []api.Answer{{V: v, Writes: writes}}}
			holdRun(t, m, x, api.Outcome{V: v, Steps: 9, Globals: one(2), Mems: [2]string{stored, nought[:7] + "z"}, Calls: hostCalls(0, nil)})
		}
		for _, v := range c.wrong {
			// What it would write isn't written either.
			x := api.Script{Answers: []api.Answer{{V: v, Writes: writes}}}
			holdRun(t, m, x, api.Outcome{Trap: api.TrapScript, Steps: 6, Globals: one(1), Mems: [2]string{stored, nought}, Calls: hostCalls(0, nil)})
		}
	}
}

func TestNoAnswerLeft(t *testing.T) {
	for _, results := range [][]int{nil, one(api.I32), one(api.S64)} {
		m := asking(results)
		for _, answers := range [][]api.Answer{nil, {}} {
			holdRun(t, m, api.Script{Answers: answers}, api.Outcome{Trap: api.TrapScript, Steps: 6, Globals: one(1), Mems: [2]string{"A\x00\x00\x00\x00\x00\x00\x00", strings.Repeat("\x00", 8)}, Calls: hostCalls(0, nil)})
		}
	}
}

func TestWritesOfAnAnswer(t *testing.T) {
	nought := strings.Repeat("\x00", 8)
	stored := "A" + nought[1:]
	m := asking(nil)
	for _, c := range []struct {
		writes []api.Write
		mems   [2]string
	}{
		{nil, [2]string{stored, nought}},
		{[]api.Write{{Mem: 0, At: 0, Bytes: "12345678"}}, [2]string{"12345678", nought}},
		{[]api.Write{{Mem: 1, At: 0, Bytes: "12345678"}, {Mem: 0, At: 0, Bytes: "abcdefgh"}, {Mem: 1, At: 2, Bytes: "xy"}}, [2]string{"abcdefgh", "12xy5678"}},
		{[]api.Write{{Mem: 0, At: 7, Bytes: "z"}, {Mem: 0, At: 8}, {Mem: 1, At: 8}}, [2]string{stored[:7] + "z", nought}},
	} {
		holdRun(t, m, api.Script{Answers: []api.Answer{{Writes: c.writes}}}, api.Outcome{Steps: 9, Globals: one(2), Mems: c.mems, Calls: hostCalls(0, nil)})
	}
	wrong := []api.Write{{At: 8, Bytes: "a"}, {At: 7, Bytes: "ab"}, {At: 9}, {At: -1}, {At: -1, Bytes: "a"}, {Mem: 2, Bytes: "a"}, {Mem: -1, Bytes: "a"}, {At: math.MaxInt, Bytes: "a"}, {At: math.MinInt, Bytes: "a"}}
	for _, w := range wrong {
		for _, writes := range [][]api.Write{{w}, {{Mem: 0, At: 1, Bytes: "b"}, {Mem: 1, At: 1, Bytes: "b"}, w}, {w, {Mem: 1, At: 1, Bytes: "b"}}} {
			want := api.Outcome{Trap: api.TrapScript, Steps: 6, Globals: one(1), Mems: [2]string{stored, nought}, Calls: hostCalls(0, nil)}
			holdRun(t, m, api.Script{Answers: []api.Answer{{Writes: writes}}}, want)
		}
	}
}

func TestWhatAnAnswerWroteIsLoaded(t *testing.T) {
	m := world(one(api.S64), hostWide+", I32Const 8, I64Load 1 0, I64Add, End")
	want := untouched(m)
	want.Mems[1] = want.Mems[1][:8] + "\x02\x01\x00\x00\x00\x00\x00\x00"
	want.V, want.Steps, want.Calls = 0x102-1, worldLocals+5, hostCalls(1, nil)
	holdRun(t, m, api.Script{Args: []int{7, -9}, Answers: []api.Answer{{V: -1, Writes: []api.Write{{Mem: 1, At: 8, Bytes: "\x02\x01"}}}}}, want)
}

func TestAsManyHostCallsAsThereMayBe(t *testing.T) {
	m := alone(one(api.I32), nil, "Loop, LocalGet 0, Call 0, LocalGet 0, I32Const 1, I32Sub, LocalTee 0, BrIf 0, End, End")
	m.Sigs = append(m.Sigs, api.Sig{Params: one(api.S32)})
	m.Imports = one(1)
	calls := func(first, many int) (l []api.HostCall) {
		for i := range many {
			l = append(l, api.HostCall{Args: one(first - i)})
		}
		return l
	}
	for _, answers := range []int{60, 61, 1000} {
		x := api.Script{Args: one(60), Answers: make([]api.Answer, answers)}
		holdRun(t, m, x, api.Outcome{Calls: calls(60, 60), Steps: 60*9 + 1})
		for _, n := range []int{61, 62, 1<<32 - 1} {
			x.Args = one(n)
			holdRun(t, m, x, api.Outcome{Trap: api.TrapScript, Calls: calls(n, 61), Steps: 60*9 + 4})
		}
	}
	for _, answers := range []int{1, 30, 59} {
		x := api.Script{Args: one(60), Answers: make([]api.Answer, answers)}
		holdRun(t, m, x, api.Outcome{Trap: api.TrapScript, Calls: calls(60, answers+1), Steps: answers*9 + 4})
	}
}

// P15.1: the outcome.

func TestWhatIsThereBehindATrap(t *testing.T) {
	const before = "I32Const 1, GlobalSet 0, I32Const 4, I32Const -1, I32Store 0 0, I32Const 8, I64Const -2, I64Store 1 0, I32Const 3, I64Const 4, " + hostBoth + ", GlobalSet 1, "
	const behind = ", I32Const 9, GlobalSet 0, I32Const 0, I32Const 9, I32Store 0 0, I32Const 77, End"
	for s, c := range map[string]struct{ trap, steps int }{
		"Unreachable":                                      {api.TrapStop, 1},
		"I32Const 1, I32Const 0, I32RemU, Drop":            {api.TrapZero, 3},
		"I32Const -2147483648, I32Const -1, I32DivS, Drop": {api.TrapOver, 3},
		"I32Const 5, I32Load 0 0, Drop":                    {api.TrapMem, 2},
		"I32Const 0, I64Const 7, I64Store 0 1":             {api.TrapMem, 3},
		"I64Const 1000, " + ownSum + ", Drop":              {api.TrapDepth, 3 + 39*9},
		hostWide + ", Drop":                                {api.TrapScript, 1},
		"Nop":                                              {api.NoTrap, 7},
	} {
		m := world(one(api.I32), before+s+behind)
		want := untouched(m)
		want.Trap, want.Steps = c.trap, worldLocals+14+c.steps
		want.Globals = []int{1, 1<<32 - 1, -7, 8}
		want.Mems = [2]string{"h\x02\x03\x04\xff\xff\xff\xff", "\x00\x00secret\xfe\xff\xff\xff\xff\xff\xff\xff"}
		want.Calls = hostCalls(0, []int{3, 4})
		switch c.trap {
		case api.NoTrap:
			want.V, want.Globals[0], want.Mems[0] = 77, 9, "\x09\x00\x00\x00\xff\xff\xff\xff"
		case api.TrapScript:
			want.Calls = append(want.Calls, hostCalls(1, nil)...)
		}
		x := api.Script{Args: []int{7, -9}, Answers: []api.Answer{{V: 1<<32 - 1, Writes: []api.Write{{Bytes: "h"}}}}}
		holdRun(t, m, x, want)
	}
}

// P3, P4

func TestNothingIsKept(t *testing.T) {
	m := world(one(api.I32), "I32Const 2, GlobalSet 0, I32Const 5, LocalSet 0, I32Const 5, LocalGet 1, "+hostBoth+", LocalGet 0, LocalGet 3, "+hostBoth+", I32Sub, End")
	// Each list stands in an array that goes on behind it.
	room := []int{7, -9, 1001, 1002, 1003}
	globals := append(slices.Clone(m.Globals), api.Global{V: 1004})
	m.Globals = globals[:4]
	answers := []api.Answer{{V: 1}, {V: 3}, {V: 1005}}
	x := api.Script{Args: room[:2], Answers: answers[:2], Fuel: 100}
	first := ran(t, m, x)
	again := ran(t, m, x)
	want := kept(again)
	first.Globals[0] = -1
	for i := range first.Calls {
		first.Calls[i].Args[0] = -1
		_ = append(first.Calls[i].Args, -1, -1, -1, -1)
		first.Calls[i].Func = -1
	}
	_ = append(first.Globals[:0], 1, 2, 3, 4, 5, 6, 7, 8)
	_ = append(first.Calls, api.HostCall{Func: -2})
	if !alike(again, want) || !alike(ran(t, m, x), want) {
		t.Error("what one run answered is another's:", again, want)
	}
	if !slices.Equal(room, []int{7, -9, 1001, 1002, 1003}) || globals[4].V != 1004 || globals[0].V != 1<<32-5 || answers[2].V != 1005 {
		t.Error("something was written behind what was handed in:", room, globals, answers)
	}
	for i := range again.Calls {
		_ = append(again.Calls[i].Args, -1, -1, -1, -1)
		if !alike(again, want) {
			t.Fatal("two lists of one answer share their room:", again)
		}
	}
}
