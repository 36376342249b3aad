package alloc_test

import (
	"math"
	"math/rand/v2"
	"slices"
	"testing"

	"oubliette/alloc"
	"oubliette/api"
	"oubliette/live"
)

func pick[T any](r *rand.Rand, l ...T) T { return l[r.IntN(len(l))] }

// someInstr is an instruction of any kind over so many cells (1 at least), that goes to one of so many labels.
func someInstr(r *rand.Rand, cells, labels int) api.Ir {
	cell := func() int { return r.IntN(cells) }
	label := 1 + r.IntN(labels)
	switch r.IntN(18) {
	case 0, 1:
		return set(cell(), pick(r, 0, 1, 2, -1, r.Int()))
	case 2, 3:
		return move(cell(), cell())
	case 4, 5:
		return op(cell(), cell(), pick(r, api.I32Add, api.I32Eqz, api.I32DivU, api.I64Sub, api.I64LtS, api.I64RemS, api.I64ExtendU), cell())
	case 6:
		return chosen(cell(), cell(), cell(), cell())
	case 7:
		return load(cell(), cell(), pick(r, 4, 8), r.IntN(9))
	case 8:
		return store(cell(), cell(), pick(r, 4, 8), r.IntN(9))
	case 9:
		return got(cell(), r.IntN(4))
	case 10:
		return kept(r.IntN(4), cell())
	case 11:
		return jump(label)
	case 12, 13:
		return jumpIf(cell(), label)
	case 14:
		return jumpUnless(cell(), label)
	case 15:
		return arg(r.IntN(4), cell())
	case 16:
		return called(pick(r, cell(), cell(), -1), r.IntN(4))
	}
	return pick(r, ret(cell()), ret(-1), stop(1+r.IntN(8)), api.Ir{Op: pick(r, 0, 17), Dst: cell(), A: cell()})
}

// someCode is a code that fits, of at most so many cells and instructions.
func someCode(r *rand.Rand, most, long int) api.Code {
	c := api.Code{Cells: 1 + r.IntN(most)}
	c.Params = r.IntN(1 + min(c.Cells, 1+r.IntN(most)))
	used := c.Cells
	if r.IntN(3) == 0 {
		used = 1 + r.IntN(c.Cells)
	}
	labels := 1 + r.IntN(1+long/8)
	for range r.IntN(long - labels + 1) {
		c.Body = append(c.Body, someInstr(r, used, labels))
	}
	if r.IntN(3) == 0 {
		c.Body = slices.DeleteFunc(c.Body, func(x api.Ir) bool { return x.Op == api.IrCall })
	}
	for n := range labels {
		c.Body = slices.Insert(c.Body, r.IntN(len(c.Body)+1), at(1+n))
	}
	return c
}

// spoil changes a field of an instruction, or takes one away, or lays one in, or changes how many cells there are.
func spoil(r *rand.Rand, c *api.Code) {
	i := r.IntN(len(c.Body))
	x := &c.Body[i]
	wrong := pick(r, -2, -1, 5, 6, 17, 60, math.MinInt, math.MaxInt, int(r.Uint64()))
	switch r.IntN(9) {
	case 0:
		x.Op = r.IntN(18)
	case 1:
		x.Dst = wrong
	case 2:
		x.A = wrong
	case 3:
		x.B, x.C = wrong, wrong
	case 4:
		x.N, x.M = wrong, wrong
	case 5:
		c.Body = slices.Delete(c.Body, i, i+1)
	case 6:
		c.Body = slices.Insert(c.Body, i, at(r.IntN(3)))
	case 7:
		c.Cells = pick(r, wrong, c.Cells-1)
	case 8:
		c.Params = wrong
	}
}

// hold holds all that is asked of a code against the reckoning, and tells the places; false, if it does not fit.
func hold(t *testing.T, c api.Code) (places []int, fits bool) {
	t.Helper()
	if !reckonedFits(c) {
		holdRefused(t, c)
		return nil, false
	}
	r := reckoned(c)
	holdSets(t, c, r.set(r.crosses), r.set(r.isNamed))
	l := r.places()
	holdPlaces(t, c, l...)
	if n := alloc.Slots(l); n != reckonedSlots(l) {
		t.Errorf("%v: %d slots", l, n)
	}
	return l, true
}

// holdApart holds P17.4 by what live tells.
func holdApart(t *testing.T, c api.Code, l []int) {
	t.Helper()
	for a, place := range l {
		for b, other := range l[:a] {
			if clash, _ := live.Clash(c, a, b); clash && (place == other || place < 0 || other < 0) {
				t.Errorf("%s: %d and %d clash, and are at %d and %d", told(c), a, b, place, other)
			}
		}
	}
	after, _ := live.After(c)
	for at, x := range c.Body {
		for k, place := range l {
			if x.Op == api.IrCall && after[at]>>k&1 == 1 && k != x.Dst && place < 6 {
				t.Errorf("%s: %d is needed behind the call at %d, and is at %d", told(c), k, at, place)
			}
		}
	}
}

// tally counts what is at which place: nowhere, in a register, in a slot; and what shares one, and slots of what crosses no call.
type tally struct{ nowhere, registers, slots, shared, spilt int }

func (n *tally) add(c api.Code, l []int) {
	crosses, _ := alloc.Crosses(c)
	for k, place := range l {
		switch {
		case place < 0:
			n.nowhere++
			continue
		case place < 6:
			n.registers++
		case crosses>>k&1 == 0:
			n.spilt++
			fallthrough
		default:
			n.slots++
		}
		if slices.Contains(l[:k], place) {
			n.shared++
		}
	}
}

func TestSmallCodesByChance(t *testing.T) {
	r := rand.New(rand.NewPCG(17, 1))
	var n tally
	refused := 0
	for range 6000 {
		c := someCode(r, 10, 40)
		if r.IntN(3) == 0 {
			spoil(r, &c)
		}
		l, fits := hold(t, c)
		if !fits {
			refused++
		}
		holdApart(t, c, l)
		if t.Failed() {
			t.FailNow()
		}
		n.add(c, l)
	}
	if refused < 500 || min(n.nowhere, n.registers, n.slots, n.shared) < 2000 || n.spilt < 100 {
		t.Errorf("refused %d; %+v", refused, n)
	}
}

// TestGreatCodesByChance: up to the bounds.
func TestGreatCodesByChance(t *testing.T) {
	r := rand.New(rand.NewPCG(17, 2))
	var n tally
	great := 0
	for i := range 40 {
		c := someCode(r, 60, 400)
		if i%10 == 0 {
			c.Cells, c.Params = 60, 4
			for len(c.Body) < 1000 {
				c.Body = append(c.Body, someInstr(r, 60, 1))
			}
		}
		l, _ := hold(t, c)
		if i%4 == 1 {
			holdApart(t, c, l)
		}
		if t.Failed() {
			t.FailNow()
		}
		n.add(c, l)
		great = max(great, slices.Max(l))
	}
	if min(n.nowhere, n.registers, n.slots, n.shared) < 100 || n.spilt < 30 || great < 30 {
		t.Errorf("%+v; the greatest place is %d", n, great)
	}
}

// TestAnyNumbers: whatever stands in the fields, there is an answer.
func TestAnyNumbers(t *testing.T) {
	r := rand.New(rand.NewPCG(17, 3))
	number := func() int {
		return pick(r, r.IntN(18), r.IntN(18), r.IntN(3), -1-r.IntN(2), int(r.Uint64()), pick(r, outsides()...))
	}
	fits := 0
	for range 6000 {
		c := api.Code{Cells: pick(r, number(), 8+r.IntN(60)), Params: pick(r, number(), 0), Labels: number()}
		for range r.IntN(8) {
			c.Body = append(c.Body, api.Ir{Op: r.IntN(18), Dst: number(), A: number(), B: number(), C: number(), N: number(), M: number()})
		}
		if _, ok := hold(t, c); ok {
			fits++
		}
		if t.Failed() {
			t.FailNow()
		}
		l := make([]int, r.IntN(6))
		for i := range l {
			l[i] = number()
		}
		if n := alloc.Slots(l); n != reckonedSlots(l) {
			t.Fatalf("%v: %d slots", l, n)
		}
	}
	if fits < 300 {
		t.Errorf("%d codes fit", fits)
	}
}

// TestTheSameAgain: what is asked in between changes nothing.
func TestTheSameAgain(t *testing.T) {
	r := rand.New(rand.NewPCG(17, 4))
	var codes []api.Code
	var places [][]int
	for range 50 {
		c := someCode(r, 20, 60)
		l, _ := alloc.Alloc(c)
		codes, places = append(codes, c), append(places, l)
	}
	for i, c := range slices.Backward(codes) {
		if l, e := alloc.Alloc(c); !slices.Equal(l, places[i]) || e != api.OK {
			t.Errorf("%s: %v, %d; was %v", told(c), l, e, places[i])
		}
	}
}
