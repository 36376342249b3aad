package xstep_test

import (
	"math"
	"math/rand/v2"
	"slices"
	"testing"

	"oubliette/api"
	"oubliette/xcode"
	"oubliette/xstep"
)

func pick[T any](r *rand.Rand, l ...T) T { return l[r.IntN(len(l))] }

// edge is a number at which something may be otherwise than beside it, or any.
func edge(r *rand.Rand) int {
	return pick(r, 0, 1, 2, 7, -1, -2, 31, 32, 63, 64, 255, 256, 1<<31-1, 1<<31, 1<<32-1, 1<<32, -1<<31, -1<<32, math.MaxInt, math.MinInt, math.MinInt+1,
		r.IntN(200), int(r.Uint32()), int(r.Uint64()), int(r.Uint64()), int(r.Uint64()>>r.IntN(64)))
}

// instruction is one that may be, of a kind.
func instruction(r *rand.Rand, op int) api.X {
	for {
		x := api.X{Op: op}
		for _, field := range []*int{&x.R, &x.B, &x.C} {
			*field = pick(r, 0, r.IntN(16))
		}
		x.Wide = r.IntN(2) == 0
		x.I = pick(r, 0, r.IntN(17))
		x.N = pick(r, 0, r.IntN(40)-20, int(int32(r.Uint32())), edge(r))
		if xcode.Right(x) {
			return x
		}
		// What a kind does not have is 0.
		y := x
		for _, field := range []*int{&y.R, &y.B, &y.I, &y.C, &y.N} {
			kept := *field
			*field = 0
			if xcode.Right(y) {
				return y
			}
			if r.IntN(2) == 0 {
				*field = kept
			}
		}
	}
}

// program is instructions by chance, some kinds more often; now and then some bytes that are none.
func program(r *rand.Rand, n int, often ...int) string {
	code := ""
	for range n {
		b, _ := xcode.Encode(instruction(r, pick(r, append(often, 1+r.IntN(23))...)))
		code += b
		if r.IntN(40) == 0 {
			code += string([]byte{byte(r.Uint32())})
		}
	}
	return code
}

// bases are where regions begin: near one another, and at the ends of all numbers.
func bases() []int {
	return []int{-20, 0, 10, 40, 64, 1000, 1 << 32, math.MaxInt - 30, math.MaxInt, math.MinInt, math.MinInt + 20}
}

func regionsOf(r *rand.Rand, code string) []api.Region {
	var out []api.Region
	for range r.IntN(4) {
		b := make([]byte, r.IntN(60))
		for i := range b {
			b[i] = byte(r.Uint32())
		}
		out = append(out, api.Region{At: pick(r, bases()...), Bytes: string(b), Code: r.IntN(8) == 0})
	}
	own := api.Region{At: pick(r, bases()...), Bytes: code, Code: true}
	return slices.Insert(out, r.IntN(len(out)+1), own)
}

// within is an address near a region's beginning or end, or in its middle.
func within(r *rand.Rand, regions []api.Region) int {
	g := pick(r, regions...)
	return pick(r, g.At, g.At+len(g.Bytes), g.At+r.IntN(len(g.Bytes)+1)) + r.IntN(21) - 10
}

// anyMachine stands at the first of some instructions, mostly.
func anyMachine(r *rand.Rand, code string) api.Machine {
	m := api.Machine{Regions: regionsOf(r, code), Flags: api.Flags{Z: r.IntN(2) == 0, S: r.IntN(2) == 0, C: r.IntN(2) == 0, O: r.IntN(2) == 0}}
	for i := range m.Regs {
		m.Regs[i] = pick(r, edge, func(r *rand.Rand) int { return within(r, m.Regions) })(r)
	}
	// So that divisions bring something more often.
	if r.IntN(2) == 0 {
		m.Regs[2] = pick(r, 0, -1)
	}
	for _, g := range m.Regions {
		if g.Code && g.Bytes == code {
			m.At = g.At
		}
	}
	if r.IntN(20) == 0 {
		m.At = within(r, m.Regions)
	}
	if r.IntN(50) == 0 {
		m.Status = r.IntN(6)
	}
	return m
}

func TestStepsByChance(t *testing.T) {
	r := rand.New(rand.NewPCG(12, 2))
	// How often each kind was stepped, and how it went: a test of nothing would hold as well.
	ends := map[[2]int]int{}
	for i := range 400000 {
		op := 1 + i%23
		code, _ := xcode.Encode(instruction(r, op))
		m := anyMachine(r, code+pick(r, "", "\xf4", "\x00\xff"))
		want, leak := stepped(m)
		holdStep(t, m, want, leak)
		if x, _, ok := standing(m); ok && m.Status == api.Going {
			ends[[2]int{x.Op, want.Status}]++
		}
		if t.Failed() {
			t.Fatalf("of %+v", m)
		}
	}
	for op := api.XMov; op <= api.XHost; op++ {
		l := []int{api.Going}
		switch op {
		case api.XLoad, api.XStore, api.XCall, api.XRet:
			l = []int{api.Going, api.Faulted}
		case api.XDiv, api.XIdiv:
			l = []int{api.Going, api.Divided}
		case api.XHlt:
			l = []int{api.Halted}
		case api.XStop:
			l = []int{api.Stopped}
		case api.XHost:
			l = []int{api.Asks}
		}
		for _, status := range l {
			if ends[[2]int{op, status}] < 500 {
				t.Errorf("the kind %d came to status %d only %d times", op, status, ends[[2]int{op, status}])
			}
		}
	}
}

func TestReadAndPutByChance(t *testing.T) {
	r := rand.New(rand.NewPCG(12, 1))
	found := 0
	for range 100000 {
		m := anyMachine(r, "\xf4\xf4\xf4\xf4\xf4\xf4\xf4\xf4\xf4")
		was := twin(m)
		at, n, v := within(r, m.Regions), pick(r, 4, 8, 4, 8, 4, 8, r.IntN(12)-2), edge(r)
		got, ok := xstep.Read(m, at, n)
		if want, is := readThere(m, at, n); got != want || ok != is {
			t.Fatalf("Read(%+v, %d, %d) = %x, %v; want %x, %v", m, at, n, got, ok, want, is)
		}
		next, ok := xstep.Put(m, at, n, v)
		if want, is := putThere(m, at, n, v); !same(next, want) || ok != is || !same(m, was) {
			t.Fatalf("Put(%+v, %d, %d, %x) = %+v, %v; want %+v, %v", m, at, n, v, next, ok, want, is)
		}
		if ok {
			found++
			holdRead(t, next, at, n, kept(n == 8, v))
		}
	}
	if found < 10000 {
		t.Errorf("only %d were found", found)
	}
}

func TestRunsByChance(t *testing.T) {
	r := rand.New(rand.NewPCG(12, 3))
	longest := 0
	for range 20000 {
		m := anyMachine(r, program(r, 1+r.IntN(30)))
		most := r.IntN(60)
		got, leaks := xstep.Run(m, most)
		want := m
		var all []api.Leak
		for want.Status == api.Going && len(all) < most {
			var leak api.Leak
			want, leak = stepped(want)
			all = append(all, leak)
		}
		if !same(got, want) || !slices.Equal(leaks, all) {
			t.Fatalf("Run(%+v, %d) = %+v, %+v; want %+v, %+v", m, most, got, leaks, want, all)
		}
		longest = max(longest, len(all))
	}
	if longest < 30 {
		t.Errorf("no run was longer than %d", longest)
	}
}

// TestRunsThatReadWhatTheyWrote: loads and stores on a few bytes, so that most of what is read was written in the same run.
func TestRunsThatReadWhatTheyWrote(t *testing.T) {
	r := rand.New(rand.NewPCG(12, 7))
	for range 3000 {
		var l []api.X
		for range 40 {
			reg := r.IntN(4)
			l = append(l,
				api.X{Op: pick(r, api.XLoad, api.XStore), Wide: r.IntN(2) == 0, R: reg, B: 4, N: r.IntN(20) - 10},
				pick(r, api.X{Op: api.XMovI, Wide: true, R: reg, N: edge(r)}, api.X{Op: api.XCall}, api.X{Op: api.XAluI, Wide: true, C: api.Add, B: 4, N: r.IntN(9)}))
		}
		m := machine(t, l...)
		got, leaks := xstep.Run(m, 80)
		want := m
		for i, leak := range leaks {
			var should api.Leak
			if want, should = stepped(want); leak != should {
				t.Fatalf("the step %d of %+v let %+v be seen; want %+v", i, l, leak, should)
			}
		}
		if !same(got, want) {
			t.Fatalf("%+v made %+v; want %+v", l, got, want)
		}
	}
}

// P12.4

// frame is what no step may change of a machine's regions: how many there are, where they lie, how long they are, and those of code.
func frame(m api.Machine) []api.Region {
	out := slices.Clone(m.Regions)
	for i, g := range out {
		if !g.Code {
			out[i].Bytes = string(make([]byte, len(g.Bytes)))
		}
	}
	return out
}

func TestNoStepChangesCodeOrWhereRegionsLie(t *testing.T) {
	r := rand.New(rand.NewPCG(12, 4))
	changed := 0
	for range 20000 {
		m := anyMachine(r, program(r, 1+r.IntN(20), api.XStore, api.XCall))
		// So that most of what is written finds a place.
		for i := range m.Regs {
			m.Regs[i] = within(r, m.Regions)
		}
		was := frame(m)
		for range 30 {
			next, _ := xstep.Step(m)
			if !slices.Equal(frame(next), was) {
				t.Fatalf("a step made %+v of %+v", next, m)
			}
			if !slices.Equal(next.Regions, m.Regions) {
				changed++
			}
			m = next
		}
	}
	if changed < 1000 {
		t.Errorf("memory was changed only %d times", changed)
	}
}

func TestLeaksHangOnWhatTheMachineHasAlone(t *testing.T) {
	r := rand.New(rand.NewPCG(12, 5))
	for range 5000 {
		m := anyMachine(r, program(r, 1+r.IntN(20)))
		other := twin(m)
		_, one := xstep.Run(m, 40)
		// Another machine is run in between: nothing of it may be left.
		xstep.Run(anyMachine(r, program(r, 5)), 10)
		if _, two := xstep.Run(other, 40); !slices.Equal(one, two) {
			t.Fatalf("%+v let %+v be seen, and then %+v", m, one, two)
		}
	}
}

func TestLeaksOfWhatReachesNothingHangOnItsPlaceAlone(t *testing.T) {
	r := rand.New(rand.NewPCG(12, 6))
	for op := api.XMov; op <= api.XHost; op++ {
		switch op {
		case api.XLoad, api.XStore, api.XCall, api.XRet, api.XDiv, api.XIdiv:
			continue
		}
		for range 300 {
			m := machine(t, instruction(r, op))
			for i := range m.Regs {
				m.Regs[i] = edge(r)
			}
			if _, leak := xstep.Step(m); leak != (api.Leak{At: codeAt, Addr: -1}) {
				t.Fatalf("%+v let %+v be seen", m, leak)
			}
		}
	}
}
