package frame_test

import (
	"math/rand/v2"
	"slices"
	"testing"

	"oubliette/alloc"
	"oubliette/api"
	"oubliette/frame"
	"oubliette/xcode"
	"oubliette/xstep"
)

// P19.4 and what the places are for, carried out by the machine.

// begun is a machine at the beginning of so many instructions, with an XHlt behind them.
func begun(t *testing.T, m api.Module, args []int, l ...api.X) api.Machine {
	t.Helper()
	code, e := xcode.All(append(slices.Clone(l), api.X{Op: api.XHlt}))
	if e != api.OK {
		t.Fatalf("no code of %v: %d", l, e)
	}
	s, ok := frame.Start(m, api.Image{Code: code, Halt: len(code) - 1}, 0, args)
	if !ok {
		t.Fatal("no machine")
	}
	return s
}

// halted carries a machine out till it halts.
func halted(t *testing.T, s api.Machine) (api.Machine, []api.Leak) {
	t.Helper()
	s, leaks := xstep.Run(s, 1000)
	if s.Status != api.Halted {
		t.Fatalf("status %d, at %x", s.Status, s.At)
	}
	return s, leaks
}

func constant(reg, n int) api.X { return api.X{Op: api.XMovI, Wide: true, R: reg, N: n} }

// deeper makes room for so many bytes of the stack.
func deeper(bytes int) api.X { return api.X{Op: api.XAluI, Wide: true, B: 4, C: api.Sub, N: bytes} }

func load(t *testing.T, reg, place int) api.X {
	t.Helper()
	x, ok := frame.Load(reg, place)
	if !ok {
		t.Errorf("no Load(%d, %d)", reg, place)
	}
	return x
}

func save(t *testing.T, place, reg int) api.X {
	t.Helper()
	x, ok := frame.Save(place, reg)
	if !ok {
		t.Errorf("no Save(%d, %d)", place, reg)
	}
	return x
}

// TestWhatIsLoadedIsWhatWasSaved: of each place, from each register into each.
func TestWhatIsLoadedIsWhatWasSaved(t *testing.T) {
	const number = -0x123456789abcdef
	for place := range 66 {
		bytes := frame.Bytes([]int{place})
		for from := range 16 {
			for to := range 16 {
				// What stands in register 4 is the stack's topmost place: it can be saved, as it is.
				l := []api.X{deeper(bytes), save(t, place, from), load(t, to, place)}
				want := api.StackAt + api.Stack - 8 - bytes
				if from != 4 {
					l, want = slices.Insert(l, 1, constant(from, number)), number
				}
				s, _ := halted(t, begun(t, api.Module{}, nil, l...))
				if s.Regs[to] != want {
					t.Errorf("from %d to %d by way of %d: %x; want %x", from, to, place, s.Regs[to], want)
				}
			}
		}
	}
}

// TestAllPlacesAtOnce: no place is another one, and none is where the machine goes back to.
func TestAllPlacesAtOnce(t *testing.T) {
	r := rand.New(rand.NewPCG(19, 1))
	for range 50 {
		var l []api.X
		kept := make([]int, 66)
		bytes := frame.Bytes([]int{65})
		l = append(l, deeper(bytes))
		for _, place := range append(r.Perm(66), r.Perm(66)...) {
			kept[place] = int(r.Uint64())
			l = append(l, constant(0, kept[place]), save(t, place, 0))
		}
		for place := range kept {
			for _, reg := range []int{0, 1, 2, 10, 14} {
				s, leaks := halted(t, begun(t, api.Module{}, nil, append(slices.Clone(l), load(t, reg, place))...))
				if s.Regs[reg] != kept[place] {
					t.Errorf("place %d into %d: %x; want %x", place, reg, s.Regs[reg], kept[place])
				}
				holdStack(t, s, leaks, bytes)
			}
		}
	}
}

// holdStack holds that a machine's steps read and wrote nothing but so many bytes below the topmost ones of its stack.
func holdStack(t *testing.T, s api.Machine, leaks []api.Leak, bytes int) {
	t.Helper()
	top := api.StackAt + api.Stack - 8
	for _, leak := range leaks {
		if leak.Addr != -1 && (leak.Addr < top-bytes || leak.Addr+8 > top) {
			t.Errorf("at %x: %x is read or written, of %d bytes below %x", leak.At, leak.Addr, bytes, top)
		}
	}
	back, ok := xstep.Read(s, top, 8)
	if want := api.CodeAt + len(s.Regions[0].Bytes) - 1; back != want || !ok {
		t.Errorf("goes back to %x, %v; want %x", back, ok, want)
	}
}

// TestPlacesOfACode: a frame of Bytes holds all slots of what alloc answers.
func TestPlacesOfACode(t *testing.T) {
	c := api.Code{Cells: 20, Params: 4}
	for k := range c.Cells - 2 {
		c.Body = append(c.Body, api.Ir{Op: api.IrConst, Dst: k, N: k})
	}
	c.Body = append(c.Body, api.Ir{Op: api.IrCall, Dst: -1})
	for k := range c.Cells - 2 {
		c.Body = append(c.Body, api.Ir{Op: api.IrOp, Dst: 0, A: 0, B: k, N: api.I64Add})
	}
	c.Body = append(c.Body, api.Ir{Op: api.IrReturn, A: 0})
	places, e := alloc.Alloc(c)
	if e != api.OK {
		t.Fatal(e)
	}
	bytes := frame.Bytes(places)
	if bytes != 8*18 {
		t.Errorf("%d bytes for %v", bytes, places)
	}
	for _, place := range places {
		if place < 0 {
			continue
		}
		s, leaks := halted(t, begun(t, api.Module{}, nil, deeper(bytes), constant(2, 9), save(t, place, 2), load(t, 1, place)))
		if s.Regs[1] != 9 {
			t.Errorf("place %d: %d", place, s.Regs[1])
		}
		holdStack(t, s, leaks, bytes)
	}
}

// TestAMachineReadsWhatItBeginsWith: arguments, the number of calls, globals and memories, by register 15.
func TestAMachineReadsWhatItBeginsWith(t *testing.T) {
	m := api.Module{Globals: globals(-11, 12), Mems: [2]int{3, 12}, Data: []api.Data{{Bytes: "public.."}, {Mem: 1, At: 4088, Bytes: "secret.."}}}
	args := []int{21, -22, 23, 24}
	text := func(s string) int {
		v, _ := xstep.Read(api.Machine{Regions: []api.Region{{Bytes: s}}}, 0, 8)
		return v
	}
	for n, want := range map[int]int{
		frame.Args(0): 21, frame.Args(1): -22, frame.Args(2): 23, frame.Args(3): 24,
		frame.Calls():   0,
		frame.Global(0): -11, frame.Global(1): 12,
		frame.Memory(0):        text("public.."),
		frame.Memory(1):        0,
		frame.Memory(1) + 4088: text("secret.."),
	} {
		x := api.X{Op: api.XLoad, Wide: true, R: 0, B: 15, N: n}
		s, leaks := halted(t, begun(t, m, args, x))
		if s.Regs[0] != want || leaks[0].Addr != api.DataAt+n {
			t.Errorf("%x behind register 15, at %x: %d; want %d", n, leaks[0].Addr, s.Regs[0], want)
		}
	}
}

// TestWhatIsBeyondARegionFaults: each region ends where it ends, and nothing lies behind the topmost bytes of the stack.
func TestWhatIsBeyondARegionFaults(t *testing.T) {
	m := api.Module{Globals: globals(1, 2), Mems: [2]int{3, 4}}
	for n, ok := range map[int]bool{
		-8: false, -1: false, 0: true, 48: true, 49: false, 56: false,
		frame.Memory(0) - 1: false, frame.Memory(0): true, frame.Memory(0) + 1: false,
		frame.Memory(1) - 1: false, frame.Memory(1): true, frame.Memory(1) + 8: true, frame.Memory(1) + 9: false,
		api.StackAt - api.DataAt - 1: false, api.StackAt - api.DataAt: true,
		api.StackAt + api.Stack - 8 - api.DataAt: true, api.StackAt + api.Stack - 7 - api.DataAt: false,
		// Code is neither read nor written.
		api.CodeAt - api.DataAt: false,
	} {
		for _, op := range []int{api.XLoad, api.XStore} {
			s, _ := xstep.Run(begun(t, m, nil, api.X{Op: op, Wide: true, R: 0, B: 15, N: n}), 9)
			want := api.Faulted
			if ok {
				want = api.Halted
			}
			if s.Status != want {
				t.Errorf("%d of %x behind register 15: status %d; want %d", op, n, s.Status, want)
			}
		}
	}
}

// TestAFunctionGoesBackToHalt: what an XRet takes from the stack at the start.
func TestAFunctionGoesBackToHalt(t *testing.T) {
	code, _ := xcode.All([]api.X{{Op: api.XStop}, constant(0, 7), {Op: api.XRet}, {Op: api.XStop}, {Op: api.XHlt}})
	stop, _ := xcode.Encode(api.X{Op: api.XStop})
	i := api.Image{Code: code, Halt: len(code) - 1}
	s, ok := frame.Start(api.Module{}, i, len(stop), nil)
	if !ok {
		t.Fatal("no machine")
	}
	s, leaks := halted(t, s)
	if s.Regs[0] != 7 || s.Regs[4] != api.StackAt+api.Stack || len(leaks) != 3 || leaks[1].Addr != api.StackAt+api.Stack-8 || leaks[2].At != api.CodeAt+i.Halt {
		t.Errorf("%v, %v", s.Regs, leaks)
	}
}

// TestAMachineGoesOnFromItsEntry: at each instruction of some code.
func TestAMachineGoesOnFromItsEntry(t *testing.T) {
	code, _ := xcode.All([]api.X{constant(0, 1), constant(1, 2), constant(2, 3), {Op: api.XHlt}})
	one, _ := xcode.Encode(constant(0, 1))
	for n, want := range [][3]int{{1, 2, 3}, {0, 2, 3}, {0, 0, 3}, {}} {
		s, ok := frame.Start(api.Module{}, api.Image{Code: code}, n*len(one), nil)
		if !ok {
			t.Fatal("no machine")
		}
		if s, _ = halted(t, s); [3]int(s.Regs[:3]) != want {
			t.Errorf("from instruction %d on: %v; want %v", n, s.Regs, want)
		}
	}
}
