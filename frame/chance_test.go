package frame_test

import (
	"math"
	"math/rand/v2"
	"slices"
	"testing"

	"oubliette/api"
	"oubliette/frame"
)

func pick[T any](r *rand.Rand, l ...T) T { return l[r.IntN(len(l))] }

func someNumber(r *rand.Rand) int {
	return pick(r, 0, 1, -1, r.IntN(300), int(r.Uint64()), int(r.Uint64()), math.MinInt, math.MaxInt, 1<<32-1, -1<<31)
}

func someNumbers(r *rand.Rand, n int) []int {
	l := make([]int, n)
	for i := range l {
		l[i] = someNumber(r)
	}
	return l
}

func someBytes(r *rand.Rand, n int) string {
	l := make([]byte, n)
	for i := range l {
		l[i] = byte(r.Uint32())
	}
	return string(l)
}

// someModule is a module whose globals, memories and data are by chance, not all of them such as may be.
func someModule(r *rand.Rand) api.Module {
	m := api.Module{Globals: globals(someNumbers(r, pick(r, 0, 1, r.IntN(9), r.IntN(9), 8, r.IntN(200), 8187))...)}
	for k := range m.Mems {
		m.Mems[k] = pick(r, 0, 3, 12, 3+r.IntN(10), 3+r.IntN(10), r.IntN(30)-10)
	}
	for range r.IntN(9) {
		m.Data = append(m.Data, api.Data{Mem: pick(r, 0, 1, 0, 1, 2), At: pick(r, r.IntN(40)-3, r.IntN(5000)), Bytes: someBytes(r, r.IntN(30))})
	}
	return m
}

func TestModulesByChance(t *testing.T) {
	r := rand.New(rand.NewPCG(19, 2))
	counts := map[string]int{}
	for range 1500 {
		m, code := someModule(r), someBytes(r, pick(r, r.IntN(300), 0, r.IntN(9)))
		l := frame.Regions(m, code)
		if want := regionsOf(m, code, nil, 0); !slices.Equal(l, want) {
			t.Fatalf("%d globals, %v, %v:\n%swant\n%s", len(m.Globals), m.Mems, m.Data, told(l), told(want))
		}
		if !apart(l) {
			t.Errorf("%d globals, %v: regions share an address:\n%s", len(m.Globals), m.Mems, told(l))
		}
		tally(counts, m, l)
		i := api.Image{M: pick(r, m, api.Module{}), Code: code, Entries: []int{0}, Halt: pick(r, r.IntN(300), r.IntN(len(code)+1), someNumber(r))}
		entry, args := r.IntN(len(code)+3)-1, someNumbers(r, pick(r, r.IntN(5), r.IntN(5), r.IntN(9)))
		want, ok := startOf(m, i, entry, args)
		s, sok := frame.Start(m, i, entry, args)
		if sok != ok || !sameMachine(s, want) {
			t.Fatalf("%d globals, %v, entry %d of %d, Halt %d, %v: %v, at %x, %v:\n%swant %v:\n%s", len(m.Globals), m.Mems, entry, len(code), i.Halt, args,
				s.Regs, s.At, sok, told(s.Regions), ok, told(want.Regions))
		}
		if ok {
			counts["starts"]++
		} else {
			counts["no starts"]++
		}
	}
	for _, what := range []string{"public alone", "secret alone", "both", "none", "data", "globals", "as many globals as there is room for", "starts", "no starts"} {
		if counts[what] < 80 {
			t.Errorf("%s: %d", what, counts[what])
		}
	}
}

// tally counts what of a module is to be seen in its regions.
func tally(counts map[string]int, m api.Module, l []api.Region) {
	kinds, laid := "none", false
	for _, region := range l {
		switch region.At {
		case publicAt:
			kinds = "public alone"
		case secretAt:
			if kinds == "none" {
				kinds = "secret alone"
			} else {
				kinds = "both"
			}
		default:
			continue
		}
		laid = laid || region.Bytes != nought(len(region.Bytes))
	}
	counts[kinds]++
	if laid {
		counts["data"]++
	}
	if len(m.Globals) > 0 {
		counts["globals"]++
	}
	if len(m.Globals) == 8187 {
		counts["as many globals as there is room for"]++
	}
}

// TestNoTwoDataShareAByte: arguments, the number of calls and the globals are each apart.
func TestNoTwoDataShareAByte(t *testing.T) {
	l := []int{frame.Calls()}
	for i := range 4 {
		l = append(l, frame.Args(i))
	}
	for i := range 200 {
		l = append(l, frame.Global(i))
	}
	slices.Sort(l)
	for i, at := range l {
		if at != 8*i {
			t.Errorf("the datum %d is at %d", i, at)
		}
	}
}

// P4

func TestTheSameAgain(t *testing.T) {
	r := rand.New(rand.NewPCG(19, 3))
	for range 100 {
		m, i, args := someModule(r), api.Image{Code: someBytes(r, 20), Halt: r.IntN(20)}, someNumbers(r, 3)
		first, ok := frame.Start(m, i, 5, args)
		frame.Start(someModule(r), api.Image{Code: someBytes(r, 30)}, 1, someNumbers(r, 4))
		second, ok2 := frame.Start(m, i, 5, args)
		if !ok || !ok2 || !sameMachine(first, second) || !slices.Equal(frame.Regions(m, i.Code), frame.Regions(m, i.Code)) {
			t.Fatalf("%v: another answer", m)
		}
	}
}
