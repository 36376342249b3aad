package frame_test

import (
	"math"
	"slices"
	"strings"
	"testing"

	"oubliette/api"
	"oubliette/frame"
)

// edges are numbers at which something may be otherwise than beside them, or that would wrap.
func edges() []int {
	l := []int{math.MinInt, math.MinInt + 1, math.MaxInt, math.MaxInt - 1, math.MaxInt - 5, math.MaxInt - 6}
	for _, n := range []uint{3, 7, 8, 15, 16, 31, 32, 46, 47, 48, 59, 60, 61, 62} {
		for d := range 13 {
			l = append(l, 1<<n+d-6, -1<<n+d-6)
		}
	}
	return l
}

// P19.1

func holdRegister(t *testing.T, place int) {
	t.Helper()
	want, ok := registerOf(place)
	if got, gok := frame.Register(place); got != want || gok != ok {
		t.Errorf("Register(%d) = %d, %v; want %d, %v", place, got, gok, want, ok)
	}
}

func holdMoves(t *testing.T, place, reg int) {
	t.Helper()
	load, save, ok := moves(place, reg)
	if got, gok := frame.Load(reg, place); got != load || gok != ok {
		t.Errorf("Load(%d, %d) = %v, %v; want %v, %v", reg, place, got, gok, load, ok)
	}
	if got, gok := frame.Save(place, reg); got != save || gok != ok {
		t.Errorf("Save(%d, %d) = %v, %v; want %v, %v", place, reg, got, gok, save, ok)
	}
}

func TestTheRegistersOfTheFirstPlaces(t *testing.T) {
	for place, want := range []int{3, 5, 6, 7, 8, 9} {
		if got, ok := frame.Register(place); got != want || !ok {
			t.Errorf("Register(%d) = %d, %v; want %d", place, got, ok, want)
		}
	}
	for _, place := range append(edges(), -2, -1, 6, 7, 9, 64, 65, 66, 256, 1<<32+1) {
		if got, ok := frame.Register(place); (place < 0 || place > 5) && (got != 0 || ok) {
			t.Errorf("Register(%d) = %d, %v", place, got, ok)
		}
	}
	for place := -100; place <= 300; place++ {
		holdRegister(t, place)
	}
}

func TestSomeMovesAsTheyAreWritten(t *testing.T) {
	move := func(from, to int) api.X { return api.X{Op: 1, Wide: true, R: from, B: to} }
	load := func(reg, n int) api.X { return api.X{Op: 11, Wide: true, R: reg, B: 4, N: n} }
	store := func(reg, n int) api.X { return api.X{Op: 12, Wide: true, R: reg, B: 4, N: n} }
	for _, c := range []struct {
		reg, place int
		load, save api.X
	}{
		{0, 0, move(3, 0), move(0, 3)},
		{3, 0, move(3, 3), move(3, 3)},
		{2, 1, move(5, 2), move(2, 5)},
		{15, 2, move(6, 15), move(15, 6)},
		{4, 3, move(7, 4), move(4, 7)},
		{1, 4, move(8, 1), move(1, 8)},
		{0, 5, move(9, 0), move(0, 9)},
		{0, 6, load(0, 0), store(0, 0)},
		{0, 7, load(0, 8), store(0, 8)},
		{1, 8, load(1, 16), store(1, 16)},
		{2, 21, load(2, 120), store(2, 120)},
		{9, 22, load(9, 128), store(9, 128)},
		{4, 64, load(4, 464), store(4, 464)},
		{15, 65, load(15, 472), store(15, 472)},
	} {
		if got, ok := frame.Load(c.reg, c.place); got != c.load || !ok {
			t.Errorf("Load(%d, %d) = %v, %v; want %v", c.reg, c.place, got, ok, c.load)
		}
		if got, ok := frame.Save(c.place, c.reg); got != c.save || !ok {
			t.Errorf("Save(%d, %d) = %v, %v; want %v", c.place, c.reg, got, ok, c.save)
		}
	}
}

func TestMovesOfAllPlacesAndRegisters(t *testing.T) {
	for reg := -20; reg <= 40; reg++ {
		for place := -20; place <= 140; place++ {
			holdMoves(t, place, reg)
		}
	}
}

func TestNoMovesOfPlacesAndRegistersThatAreNone(t *testing.T) {
	for _, wrong := range append(edges(), -1, 1<<32, 1<<32+6, 1<<61+6) {
		if wrong < 0 || wrong > 15 {
			for _, place := range []int{0, 5, 6, 65} {
				holdMoves(t, place, wrong)
			}
		}
		if wrong < 0 || wrong > 65 {
			for _, reg := range []int{0, 4, 15} {
				holdMoves(t, wrong, reg)
			}
		}
		holdMoves(t, wrong, wrong)
	}
}

// P19.2

func TestBytesOfPlaces(t *testing.T) {
	for _, c := range []struct {
		l    []int
		want int
	}{
		{nil, 0},
		{[]int{}, 0},
		{[]int{-1}, 0},
		{[]int{-1, -1, -1}, 0},
		{[]int{0}, 0},
		{[]int{0, 1, 2, 3, 4, 5}, 0},
		{[]int{5, -1}, 0},
		{[]int{6}, 8},
		{[]int{6, 6, 6}, 8},
		{[]int{7}, 16},
		{[]int{6, 7, 8}, 24},
		{[]int{8, 7, 6}, 24},
		{[]int{6, 9, 7, -1, 0}, 32},
		{[]int{3, 8, -1}, 24},
		{[]int{65}, 480},
		{[]int{-1, 65, 0}, 480},
	} {
		if got := frame.Bytes(c.l); got != c.want {
			t.Errorf("Bytes(%v) = %d; want %d", c.l, got, c.want)
		}
	}
	for place := -1; place <= 65; place++ {
		want := max(0, 8*place-40)
		for _, l := range [][]int{{place}, {-1, place}, {place, 0}, {place, place}, slices.Repeat([]int{place}, 60)} {
			if got := frame.Bytes(l); got != want {
				t.Errorf("Bytes(%v) = %d; want %d", l, got, want)
			}
		}
	}
}

func TestBytesOfPlacesThatWouldWrap(t *testing.T) {
	for _, place := range edges() {
		want, ok := placed(-40, 8, place)
		if place < 6 || !ok {
			continue
		}
		if got := frame.Bytes([]int{3, place, 6}); got != want {
			t.Errorf("Bytes of a place %d: %d; want %d", place, got, want)
		}
	}
	for _, place := range []int{1<<60 + 5, 1<<61 + 5, 1<<61 + 6, math.MaxInt - 1, math.MaxInt} {
		if got := frame.Bytes([]int{3, place, 6}); got != 0 {
			t.Errorf("Bytes of a place %d: %d", place, got)
		}
	}
}

func TestWhereDataStand(t *testing.T) {
	for i, want := range []int{0, 8, 16, 24} {
		if got := frame.Args(i); got != want {
			t.Errorf("Args(%d) = %d; want %d", i, got, want)
		}
	}
	if got := frame.Calls(); got != 32 {
		t.Errorf("Calls() = %d", got)
	}
	for i, want := range []int{40, 48, 56, 64, 72, 80, 88, 96} {
		if got := frame.Global(i); got != want {
			t.Errorf("Global(%d) = %d; want %d", i, got, want)
		}
	}
	for k, want := range []int{0x10000, 0x20000} {
		if got := frame.Memory(k); got != want {
			t.Errorf("Memory(%d) = %x; want %x", k, got, want)
		}
	}
	if frame.Global(8) != 104 || frame.Global(1000) != 8040 {
		t.Error("more globals than a module may have:", frame.Global(8), frame.Global(1000))
	}
}

func TestWhereDataStandOfNumbersThatWouldWrap(t *testing.T) {
	hold := func(name string, got, first, size, n int) {
		want, ok := placed(first, size, n)
		if !ok {
			want = 0
		}
		if got != want {
			t.Errorf("%s(%d) = %d; want %d", name, n, got, want)
		}
	}
	for _, n := range edges() {
		if _, ok := placed(0, 8, n); n > 1000 || !ok {
			hold("Args", frame.Args(n), 0, 8, n)
		}
		if _, ok := placed(40, 8, n); n > 1000 || !ok {
			hold("Global", frame.Global(n), 40, 8, n)
		}
		if _, ok := placed(publicAt-dataAt, 65536, n); n > 1000 || !ok {
			hold("Memory", frame.Memory(n), publicAt-dataAt, 65536, n)
		}
	}
}

// P19.3: Regions

func holdRegions(t *testing.T, m api.Module, code string, want ...api.Region) {
	t.Helper()
	if got := frame.Regions(m, code); !slices.Equal(got, want) {
		t.Errorf("Regions(%v, %d bytes):\n%swant\n%s", m, len(code), told(got), told(want))
	}
}

func nought(n int) string { return strings.Repeat("\x00", n) }

func codeOf(b string) api.Region   { return api.Region{At: 0x100000, Bytes: b, Code: true} }
func dataIs(b string) api.Region   { return api.Region{At: 0x10000, Bytes: nought(40) + b} }
func publicIs(b string) api.Region { return api.Region{At: 0x20000, Bytes: b} }
func secretIs(b string) api.Region { return api.Region{At: 0x30000, Bytes: b} }
func emptyStack() api.Region       { return api.Region{At: 0x40000, Bytes: nought(16384)} }
func globals(l ...int) []api.Global {
	return spread(l, func(v int) api.Global { return api.Global{V: v} })
}

func spread[A, B any](l []A, f func(A) B) (out []B) {
	for _, a := range l {
		out = append(out, f(a))
	}
	return out
}

func TestRegionsOfNothing(t *testing.T) {
	holdRegions(t, api.Module{}, "", codeOf(""), dataIs(""), emptyStack())
	holdRegions(t, api.Module{}, "code", codeOf("code"), dataIs(""), emptyStack())
	holdRegions(t, api.Module{Globals: []api.Global{}, Data: []api.Data{}}, "\x00", codeOf("\x00"), dataIs(""), emptyStack())
}

func TestRegionsOfLongCode(t *testing.T) {
	for _, n := range []int{1, 255, 4096, 65536, 1 << 20, 1<<20 + 1} {
		code := strings.Repeat("\xf4\x00\xff", n)[:n]
		holdRegions(t, api.Module{}, code, codeOf(code), dataIs(""), emptyStack())
	}
}

func TestRegionsOfGlobals(t *testing.T) {
	m := api.Module{Globals: []api.Global{
		{T: api.I32, V: 7},
		{T: api.I64, V: -2},
		{T: api.S32, V: 0xfffffffe},
		{T: api.S64, V: 0x0102030405060708},
		{T: api.I64, V: math.MinInt},
		{T: api.S64, V: math.MaxInt},
		{T: api.I64, V: 0},
		{T: api.I64, V: -1},
	}}
	want := "\x07\x00\x00\x00\x00\x00\x00\x00" +
		"\xfe\xff\xff\xff\xff\xff\xff\xff" +
		"\xfe\xff\xff\xff\x00\x00\x00\x00" +
		"\x08\x07\x06\x05\x04\x03\x02\x01" +
		"\x00\x00\x00\x00\x00\x00\x00\x80" +
		"\xff\xff\xff\xff\xff\xff\xff\x7f" +
		"\x00\x00\x00\x00\x00\x00\x00\x00" +
		"\xff\xff\xff\xff\xff\xff\xff\xff"
	for n := range len(m.Globals) + 1 {
		some := api.Module{Globals: m.Globals[:n]}
		holdRegions(t, some, "c", codeOf("c"), dataIs(want[:8*n]), emptyStack())
	}
}

// TestRegionsOfGlobalsThatNoModuleMayHave: Regions asks for no module that is valid.
func TestRegionsOfGlobalsThatNoModuleMayHave(t *testing.T) {
	holdRegions(t, api.Module{Globals: []api.Global{{T: api.I32, V: -2}, {T: 77, V: 1 << 40}, {T: -1, V: 5}}}, "",
		codeOf(""), dataIs("\xfe\xff\xff\xff\xff\xff\xff\xff"+"\x00\x00\x00\x00\x00\x01\x00\x00"+"\x05\x00\x00\x00\x00\x00\x00\x00"), emptyStack())
	many, want := make([]int, 1000), ""
	for i := range many {
		many[i] = i
		want += string([]byte{byte(i), byte(i >> 8), 0, 0, 0, 0, 0, 0})
	}
	holdRegions(t, api.Module{Globals: globals(many...)}, "", codeOf(""), dataIs(want), emptyStack())
}

func TestRegionsOfMemories(t *testing.T) {
	data := []api.Data{{Mem: 0, At: 2, Bytes: "abc"}, {Mem: 1, At: 6, Bytes: "wxyz"}, {Mem: 0, At: 4, Bytes: "C"}, {Mem: 1, At: -1, Bytes: "no"}, {Mem: 2, Bytes: "no"}}
	public, secret := "\x00\x00abC\x00\x00\x00", "\x00\x00\x00\x00\x00\x00wx"
	m := func(public, secret int) api.Module { return api.Module{Mems: [2]int{public, secret}, Data: data} }
	holdRegions(t, m(0, 0), "c", codeOf("c"), dataIs(""), emptyStack())
	holdRegions(t, m(3, 0), "c", codeOf("c"), dataIs(""), publicIs(public), emptyStack())
	holdRegions(t, m(0, 3), "c", codeOf("c"), dataIs(""), secretIs(secret), emptyStack())
	holdRegions(t, m(3, 3), "c", codeOf("c"), dataIs(""), publicIs(public), secretIs(secret), emptyStack())
	holdRegions(t, m(12, 4), "c", codeOf("c"), dataIs(""), publicIs(public+nought(4088)), secretIs(secret+"yz"+nought(6)), emptyStack())
	holdRegions(t, m(4, 12), "c", codeOf("c"), dataIs(""), publicIs(public+nought(8)), secretIs(secret+"yz"+nought(4086)), emptyStack())
}

func TestRegionsOfMemoriesThatAreNone(t *testing.T) {
	for _, wrong := range []int{-1, 1, 2, 13, 64, math.MinInt, math.MaxInt} {
		data := []api.Data{{Mem: 0, Bytes: "a"}, {Mem: 1, Bytes: "b"}}
		holdRegions(t, api.Module{Mems: [2]int{wrong, wrong}, Data: data}, "", codeOf(""), dataIs(""), emptyStack())
		holdRegions(t, api.Module{Mems: [2]int{wrong, 3}, Data: data}, "", codeOf(""), dataIs(""), secretIs("b"+nought(7)), emptyStack())
		holdRegions(t, api.Module{Mems: [2]int{3, wrong}, Data: data}, "", codeOf(""), dataIs(""), publicIs("a"+nought(7)), emptyStack())
	}
}

func TestEverythingElseOfAModuleCountsForNothing(t *testing.T) {
	m := api.Module{
		Sigs: []api.Sig{{Params: []int{9}}}, Imports: []int{-1}, Funcs: []api.Func{{Sig: 77, Body: []api.Instr{{Op: -1}}}},
		Mems: [2]int{3, 0}, Globals: globals(3),
	}
	holdRegions(t, m, "c", codeOf("c"), dataIs("\x03"+nought(7)), publicIs(nought(8)), emptyStack())
}

// P19.3: Start

// holdStart holds Start against what P19.3 says, and gives the machine.
func holdStart(t *testing.T, m api.Module, i api.Image, entry int, args ...int) api.Machine {
	t.Helper()
	want, ok := startOf(m, i, entry, args)
	got, gok := frame.Start(m, i, entry, args)
	if gok != ok || !sameMachine(got, want) {
		t.Errorf("Start(%v, %d bytes, Halt %d, %d, %v) = %v, at %x, %v, %v, %d, %v:\n%swant %v, at %x, %v:\n%s", m, len(i.Code), i.Halt, entry, args,
			got.Regs, got.At, got.Flags, gok, got.Status, gok, told(got.Regions), want.Regs, want.At, ok, told(want.Regions))
	}
	return got
}

func TestAMachineAsItIsWritten(t *testing.T) {
	m := api.Module{Globals: globals(-3), Mems: [2]int{0, 3}, Data: []api.Data{{Mem: 1, At: 1, Bytes: "s"}}}
	got, ok := frame.Start(m, api.Image{Code: "\x90\xc3\xf4", Halt: 2}, 1, []int{5, -1, 0x0807060504030201})
	want := api.Machine{
		Regs:   [16]int{4: 0x43ff8, 15: 0x10000},
		At:     0x100001,
		Status: api.Going,
		Regions: []api.Region{
			{At: 0x100000, Bytes: "\x90\xc3\xf4", Code: true},
			{At: 0x10000, Bytes: "\x05" + nought(7) + "\xff\xff\xff\xff\xff\xff\xff\xff" + "\x01\x02\x03\x04\x05\x06\x07\x08" + nought(16) + "\xfd\xff\xff\xff\xff\xff\xff\xff"},
			{At: 0x30000, Bytes: "\x00s" + nought(6)},
			{At: 0x40000, Bytes: nought(16376) + "\x02\x00\x10" + nought(5)},
		},
	}
	if !ok || !sameMachine(got, want) {
		t.Errorf("%v, at %x, %v, %d, %v:\n%s", got.Regs, got.At, got.Flags, got.Status, ok, told(got.Regions))
	}
}

func TestStartAtEachEntry(t *testing.T) {
	for _, n := range []int{0, 1, 2, 49, 300} {
		i := api.Image{Code: strings.Repeat("\xf4", n), Halt: n / 2}
		for entry := -3; entry <= n+3; entry++ {
			holdStart(t, api.Module{}, i, entry)
		}
		for _, entry := range edges() {
			holdStart(t, api.Module{}, i, entry)
		}
	}
}

func TestStartNowhereAndWithTooMuch(t *testing.T) {
	m := api.Module{Mems: [2]int{3, 3}, Globals: globals(1)}
	i := api.Image{M: m, Code: "code", Entries: []int{0, 4, -1}, Halt: 3}
	for _, c := range []struct {
		i     api.Image
		entry int
		args  []int
	}{
		{i, -1, nil},
		{i, 4, nil},
		{i, codeAt, nil},
		{i, math.MinInt, nil},
		{i, math.MaxInt, nil},
		{i, -1 << 32, nil},
		{i, 1 << 32, nil},
		{i, 0, []int{1, 2, 3, 4, 5}},
		{i, 3, []int{0, 0, 0, 0, 0}},
		{i, 0, make([]int, 1000)},
		{i, 4, make([]int, 5)},
		{api.Image{M: m, Entries: []int{0}}, 0, nil},
		{api.Image{M: m, Entries: []int{0}}, -1, nil},
		{api.Image{}, 0, []int{1}},
	} {
		s, ok := frame.Start(m, c.i, c.entry, c.args)
		if ok || !sameMachine(s, api.Machine{}) {
			t.Errorf("Start of %d bytes, at %d, with %d arguments: %v, at %d, %d regions, %v", len(c.i.Code), c.entry, len(c.args), s.Regs, s.At, len(s.Regions), ok)
		}
	}
}

func TestStartWithUpToFourArguments(t *testing.T) {
	i := api.Image{Code: "code", Halt: 1}
	args := []int{1, -2, math.MinInt, 0x1122334455667788}
	for n := range len(args) + 1 {
		s := holdStart(t, api.Module{}, i, 0, args[:n]...)
		bytes := "\x01\x00\x00\x00\x00\x00\x00\x00" + "\xfe\xff\xff\xff\xff\xff\xff\xff" + "\x00\x00\x00\x00\x00\x00\x00\x80" + "\x88\x77\x66\x55\x44\x33\x22\x11"
		if want := bytes[:8*n] + nought(40-8*n); s.Regions[1].Bytes != want {
			t.Errorf("%d arguments: %x; want %x", n, s.Regions[1].Bytes, want)
		}
	}
	// Arguments are of no type here: they stand as they are.
	holdStart(t, api.Module{Sigs: []api.Sig{{Params: []int{api.I32}}}, Funcs: []api.Func{{}}}, i, 0, -1, 1<<40)
}

func TestStartGoesBackToHalt(t *testing.T) {
	for _, c := range []struct {
		halt int
		want string
	}{
		{0, "\x00\x00\x10\x00\x00\x00\x00\x00"},
		{3, "\x03\x00\x10\x00\x00\x00\x00\x00"},
		{0x1234, "\x34\x12\x10\x00\x00\x00\x00\x00"},
		{-1, "\xff\xff\x0f\x00\x00\x00\x00\x00"},
		{-0x100001, "\xff\xff\xff\xff\xff\xff\xff\xff"},
		{0x1122334400000000, "\x00\x00\x10\x00\x44\x33\x22\x11"},
	} {
		s, ok := frame.Start(api.Module{}, api.Image{Code: "code", Halt: c.halt}, 0, nil)
		if !ok || len(s.Regions) != 3 || s.Regions[2].Bytes != nought(16376)+c.want {
			t.Errorf("Halt %x: %v:\n%s", c.halt, ok, told(s.Regions))
		}
	}
	for _, halt := range edges() {
		holdStart(t, api.Module{}, api.Image{Code: "code", Halt: halt}, 0)
	}
}

// TestStartIsOfTheModuleThatIsHandedIn: whatever module the image has.
func TestStartIsOfTheModuleThatIsHandedIn(t *testing.T) {
	one := api.Module{Globals: globals(1, 2), Mems: [2]int{3, 0}, Data: []api.Data{{Bytes: "one"}}}
	other := api.Module{Globals: globals(7), Mems: [2]int{0, 4}, Data: []api.Data{{Mem: 1, Bytes: "other"}}}
	holdStart(t, one, api.Image{M: other, Code: "code", Halt: 2, Entries: []int{1, 2}}, 3, 9)
	holdStart(t, other, api.Image{M: one, Code: "code", Halt: 2, Entries: []int{1, 2}}, 3, 9)
	holdStart(t, one, api.Image{Code: "code"}, 3, 9)
	holdStart(t, api.Module{}, api.Image{M: one, Code: "code"}, 3, 9)
}

// P3, P4

func TestWhatIsHandedInStays(t *testing.T) {
	m := api.Module{
		Globals: slices.Grow(globals(1, -2), 5),
		Mems:    [2]int{3, 4},
		Data:    slices.Grow([]api.Data{{At: 1, Bytes: "a"}, {Mem: 1, At: 2, Bytes: "b"}}, 5),
	}
	args, places := slices.Grow([]int{5, 6}, 6), slices.Grow([]int{3, 8, -1}, 6)
	allGlobals, allData, allArgs, allPlaces := m.Globals[:cap(m.Globals)], m.Data[:cap(m.Data)], args[:cap(args)], places[:cap(places)]
	globalsBefore, dataBefore, argsBefore, placesBefore := slices.Clone(allGlobals), slices.Clone(allData), slices.Clone(allArgs), slices.Clone(allPlaces)
	i := api.Image{M: m, Code: "code", Entries: []int{1}, Halt: 2}
	for range 2 {
		frame.Bytes(places)
		frame.Regions(m, i.Code)
		frame.Start(m, i, 1, args)
		frame.Start(m, i, 4, args)
		frame.Start(m, i, 1, args[:cap(args)])
	}
	if !slices.Equal(allGlobals, globalsBefore) || !slices.Equal(allData, dataBefore) {
		t.Errorf("%v, %v; was %v, %v", allGlobals, allData, globalsBefore, dataBefore)
	}
	if !slices.Equal(allArgs, argsBefore) || !slices.Equal(allPlaces, placesBefore) || i.Entries[0] != 1 {
		t.Errorf("%v, %v; was %v, %v", allArgs, allPlaces, argsBefore, placesBefore)
	}
}

// TestAnswersAreNewMemory: what is written into one, and into its spare room, is seen in no other.
func TestAnswersAreNewMemory(t *testing.T) {
	m := api.Module{Globals: globals(1), Mems: [2]int{3, 3}}
	i := api.Image{M: m, Code: "code", Halt: 2}
	spoil := func(l []api.Region) {
		l = l[:cap(l)]
		for n := range l {
			l[n] = api.Region{At: -1, Bytes: "spoilt"}
		}
	}
	want := regionsOf(m, i.Code, nil, 0)
	first, second := frame.Regions(m, i.Code), frame.Regions(m, i.Code)
	spoil(first)
	if !slices.Equal(second, want) || !slices.Equal(frame.Regions(m, i.Code), want) {
		t.Error("Regions shares what it answers")
	}
	args := []int{4, 5}
	s := holdStart(t, m, i, 1, args...)
	other := holdStart(t, m, i, 1, args...)
	spoil(s.Regions)
	args[0] = 77
	if want, _ := startOf(m, i, 1, []int{4, 5}); !sameMachine(other, want) {
		t.Error("Start shares what it answers")
	}
	holdStart(t, m, i, 1, args...)
}
