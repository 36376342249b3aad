package live_test

import (
	"math"
	"math/rand/v2"
	"slices"
	"testing"

	"oubliette/api"
	"oubliette/live"
)

func pick[T any](r *rand.Rand, l ...T) T { return l[r.IntN(len(l))] }

// someInstr is an instruction of any kind over so many cells (1 at least), that goes to one of so many labels.
func someInstr(r *rand.Rand, cells, labels int) api.Ir {
	cell := func() int { return r.IntN(cells) }
	label := 1 + r.IntN(labels)
	switch r.IntN(18) {
	case 0, 1:
		return set(cell(), pick(r, 0, 1, 2, -1, r.Int()))
	case 2, 3:
		return move(cell(), cell())
	case 4, 5:
		return op(cell(), cell(), pick(r, api.I32Add, api.I32Eqz, api.I32DivU, api.I64Sub, api.I64LtS, api.I64RemS, api.I64ExtendU), cell())
	case 6:
		return chosen(cell(), cell(), cell(), cell())
	case 7:
		return load(cell(), cell(), pick(r, 4, 8), r.IntN(9))
	case 8:
		return store(cell(), cell(), pick(r, 4, 8), r.IntN(9))
	case 9:
		return got(cell(), r.IntN(4))
	case 10:
		return kept(r.IntN(4), cell())
	case 11:
		return jump(label)
	case 12, 13:
		return jumpIf(cell(), label)
	case 14:
		return jumpUnless(cell(), label)
	case 15:
		return arg(r.IntN(4), cell())
	case 16:
		return called(pick(r, cell(), cell(), -1), r.IntN(4))
	}
	return pick(r, ret(cell()), ret(-1), stop(1+r.IntN(8)), api.Ir{Op: pick(r, 0, 17), Dst: cell(), A: cell()})
}

// someCode is a code that fits, of at most so many cells and instructions.
func someCode(r *rand.Rand, most, long int) api.Code {
	c := api.Code{Cells: 1 + r.IntN(most)}
	c.Params = r.IntN(c.Cells + 1)
	labels := 1 + r.IntN(1+long/8)
	for range r.IntN(long - labels + 1) {
		c.Body = append(c.Body, someInstr(r, c.Cells, labels))
	}
	for n := range labels {
		c.Body = slices.Insert(c.Body, r.IntN(len(c.Body)+1), at(1+n))
	}
	// Where nothing goes to there may be some more.
	if r.IntN(4) == 0 {
		c.Body = slices.Insert(c.Body, r.IntN(len(c.Body)+1), at(0), at(0))
	}
	return c
}

// spoil changes a field of an instruction, or takes one away, or lays one in, or changes how many cells there are.
func spoil(r *rand.Rand, c *api.Code) {
	i := r.IntN(len(c.Body))
	x := &c.Body[i]
	wrong := pick(r, -2, -1, 5, 6, 17, 60, math.MinInt, math.MaxInt, int(r.Uint64()))
	switch r.IntN(9) {
	case 0:
		x.Op = r.IntN(18)
	case 1:
		x.Dst = wrong
	case 2:
		x.A = wrong
	case 3:
		x.B, x.C = wrong, wrong
	case 4:
		x.N, x.M = wrong, wrong
	case 5:
		c.Body = slices.Delete(c.Body, i, i+1)
	case 6:
		c.Body = slices.Insert(c.Body, i, at(r.IntN(3)))
	case 7:
		c.Cells = pick(r, wrong, c.Cells-1)
	case 8:
		c.Params = wrong
	}
}

// holdAll holds all that is asked of a code against the reckoning, and tells how many cells are live in all, and how many pairs clash.
func holdAll(t *testing.T, c api.Code) (many, clashes int) {
	t.Helper()
	for place := range len(c.Body) + 1 {
		holdNext(t, c, place, reckonedNext(c, place)...)
	}
	fits := reckonedFits(c)
	holdFits(t, c, fits)
	if !fits {
		return 0, 0
	}
	r := reckoned(c)
	holdLive(t, c, r.after, r.ahead)
	for a := range c.Cells {
		for _, set := range r.after {
			many += set >> a & 1
		}
		for b := range a {
			clash := r.clash(a, b)
			for _, pair := range [][2]int{{a, b}, {b, a}} {
				if is, e := live.Clash(c, pair[0], pair[1]); is != clash || e != api.OK {
					t.Errorf("%+v: do %v clash: %v, %d; want %v", c, pair, is, e, clash)
				}
			}
			if clash {
				clashes++
			}
		}
	}
	return many, clashes
}

func TestSmallCodesByChance(t *testing.T) {
	r := rand.New(rand.NewPCG(16, 1))
	var kinds [18]int
	refused, many, clashes, pairs := 0, 0, 0, 0
	for range 6000 {
		c := someCode(r, 6, 24)
		spoilt := r.IntN(3) == 0
		if spoilt {
			spoil(r, &c)
		}
		fits := reckonedFits(c)
		if !fits && !spoilt {
			t.Fatalf("%+v does not fit", c)
		}
		sum, clash := holdAll(t, c)
		if t.Failed() {
			t.FailNow()
		}
		if !fits {
			refused++
			continue
		}
		many, clashes, pairs = many+sum, clashes+clash, pairs+c.Cells*(c.Cells-1)/2
		for _, x := range c.Body {
			if x.Op >= 0 && x.Op < len(kinds) {
				kinds[x.Op]++
			}
		}
	}
	for kind, n := range kinds {
		if n < 200 {
			t.Errorf("of kind %d there are %d", kind, n)
		}
	}
	if refused < 500 || many < 10000 || clashes < 5000 || pairs-clashes < 5000 {
		t.Errorf("refused %d; live %d; %d of %d pairs clash", refused, many, clashes, pairs)
	}
}

// TestGreatCodesByChance: up to the bounds.
func TestGreatCodesByChance(t *testing.T) {
	r := rand.New(rand.NewPCG(16, 2))
	for range 12 {
		holdAll(t, someCode(r, 60, 300))
		if t.Failed() {
			t.FailNow()
		}
	}
	c := someCode(r, 60, 300)
	c.Cells, c.Params = 60, 4
	for len(c.Body) < 1000 {
		c.Body = append(c.Body, someInstr(r, 60, 1))
	}
	l, e := live.After(c)
	ahead, _ := live.Ahead(c)
	if k := reckoned(c); e != api.OK || !slices.Equal(l, k.after) || !slices.Equal(ahead, k.ahead) {
		t.Error("a code of 1000 instructions over 60 cells")
	}
}

// TestAnyNumbers: whatever stands in the fields, there is an answer.
func TestAnyNumbers(t *testing.T) {
	r := rand.New(rand.NewPCG(16, 3))
	number := func() int {
		return pick(r, r.IntN(18), r.IntN(18), r.IntN(3), -1-r.IntN(2), int(r.Uint64()), pick(r, outsides()...))
	}
	for range 3000 {
		c := api.Code{Cells: number(), Params: number(), Labels: number()}
		for range r.IntN(12) {
			c.Body = append(c.Body, api.Ir{Op: r.IntN(18), Dst: number(), A: number(), B: number(), C: number(), N: number(), M: number()})
		}
		fits := reckonedFits(c)
		holdFits(t, c, fits)
		place := number()
		holdNext(t, c, place, reckonedNext(c, place)...)
		a, b := number(), number()
		_, e := live.Clash(c, a, b)
		if isOne := func(n int) bool { return n >= 0 && n < c.Cells }; (e == api.OK) != (fits && isOne(a) && isOne(b)) {
			t.Fatalf("%+v: do %d and %d clash: %d", c, a, b, e)
		}
	}
}
