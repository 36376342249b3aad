package check_test

import (
	"math"
	"math/rand/v2"
	"slices"
	"testing"

	"oubliette/alloc"
	"oubliette/api"
	"oubliette/check"
)

func pick[T any](r *rand.Rand, l ...T) T { return l[r.IntN(len(l))] }

func someNumber(r *rand.Rand) int {
	return pick(r, 0, 1, 2, -1, r.IntN(100), int(r.Uint64()), math.MinInt, 1<<31, 1<<32-1)
}

// somePlain is an instruction over so many cells (1 at least) that needs nothing else, and goes to one of so many labels.
func somePlain(r *rand.Rand, cells, labels int) api.Ir {
	cell := func() int { return r.IntN(cells) }
	label := 1 + r.IntN(labels)
	switch r.IntN(16) {
	case 0, 1, 2:
		return set(cell(), someNumber(r))
	case 3, 4, 5:
		return move(cell(), cell())
	case 6, 7, 8:
		return op(cell(), cell(), pick(r, api.I32Add, api.I32Eqz, api.I32DivU, api.I64Sub, api.I64LtS, api.I64Mul, api.I64RemS, api.I64ExtendU), cell())
	case 9, 10:
		return chosen(cell(), cell(), cell(), cell())
	case 11:
		return jump(label)
	case 12, 13:
		return jumpIf(cell(), label)
	case 14:
		return jumpUnless(cell(), label)
	}
	return pick(r, ret(cell()), ret(cell()), ret(-1), stop(1+r.IntN(8)))
}

// someInstr is one of any kind.
func someInstr(r *rand.Rand, cells, labels int) api.Ir {
	cell := func() int { return r.IntN(cells) }
	switch r.IntN(14) {
	case 0:
		return load(cell(), cell(), pick(r, 4, 8), r.IntN(9))
	case 1:
		return store(cell(), cell(), pick(r, 4, 8), r.IntN(9))
	case 2:
		return got(cell(), r.IntN(4))
	case 3:
		return kept(r.IntN(4), cell())
	case 4:
		return arg(r.IntN(4), cell())
	case 5:
		return called(pick(r, cell(), cell(), -1), r.IntN(4))
	case 6:
		return api.Ir{Op: pick(r, 0, 17), Dst: cell(), A: cell()}
	}
	return somePlain(r, cells, labels)
}

// someCode is a code that fits, of at most so many cells and instructions of a kind.
func someCode(r *rand.Rand, most, long int, some func(r *rand.Rand, cells, labels int) api.Ir) api.Code {
	c := api.Code{Cells: 1 + r.IntN(most)}
	c.Params = r.IntN(1 + min(c.Cells, 1+r.IntN(most)))
	used := c.Cells
	if r.IntN(3) == 0 {
		used = 1 + r.IntN(c.Cells)
	}
	labels := 1 + r.IntN(1+long/8)
	for range r.IntN(long - labels + 1) {
		c.Body = append(c.Body, some(r, used, labels))
	}
	for n := range labels {
		c.Body = slices.Insert(c.Body, r.IntN(len(c.Body)+1), at(1+n))
	}
	return c
}

// spoil changes a field of an instruction, or takes one away, or lays one in, or changes how many cells there are.
func spoil(r *rand.Rand, c *api.Code) {
	i := r.IntN(len(c.Body))
	x := &c.Body[i]
	wrong := pick(r, -2, -1, 5, 6, 17, 60, math.MinInt, math.MaxInt, int(r.Uint64()))
	switch r.IntN(9) {
	case 0:
		x.Op = r.IntN(18)
	case 1:
		x.Dst = wrong
	case 2:
		x.A = wrong
	case 3:
		x.B, x.C = wrong, wrong
	case 4:
		x.N, x.M = wrong, wrong
	case 5:
		c.Body = slices.Delete(c.Body, i, i+1)
	case 6:
		c.Body = slices.Insert(c.Body, i, at(r.IntN(3)))
	case 7:
		c.Cells = pick(r, wrong, c.Cells-1)
	case 8:
		c.Params = wrong
	}
}

// moved has places otherwise: what was together stays so, registers are registers.
func moved(r *rand.Rand, l []int) []int {
	registers, slots := r.Perm(6), r.Perm(60)
	out := slices.Clone(l)
	for k, place := range l {
		switch {
		case place < 0:
			out[k] = pick(r, -1, r.IntN(66))
		case place < 6:
			out[k] = registers[place]
		default:
			out[k] = 6 + slots[place-6]
		}
	}
	return out
}

// gathered has each cell, in any order, at a place that is right beside those that have one, where there are some others if that may be.
func gathered(r *rand.Rand, k *reckoning) []int {
	l := slices.Repeat(ints(-1), k.c.Cells)
	for _, cell := range r.Perm(k.c.Cells) {
		if !k.isNamed(cell) {
			l[cell] = pick(r, -1, r.IntN(66))
			continue
		}
		isFree := func(place int) bool {
			for other, p := range l {
				if p == place && k.clash(cell, other) {
					return false
				}
			}
			return place >= 6 || place >= 0 && !k.crosses(cell)
		}
		tries := slices.Concat(l, r.Perm(66))
		r.Shuffle(len(l), func(i, j int) { tries[i], tries[j] = tries[j], tries[i] })
		l[cell] = tries[slices.IndexFunc(tries, isFree)]
	}
	return l
}

// somePlaces are some for a code that fits: some are right, others are not.
func somePlaces(r *rand.Rand, c api.Code) []int {
	l, _ := alloc.Alloc(c)
	switch r.IntN(8) {
	case 0:
	case 1, 2:
		l = moved(r, l)
	case 3, 4:
		l = gathered(r, reckoned(c))
	case 5:
		for k := range l {
			l[k] = r.IntN(9)
		}
	case 6:
		for k := range l {
			l[k] = 6 + r.IntN(60)
		}
	case 7:
		l = run(6, 6+c.Cells)
	}
	if r.IntN(3) == 0 {
		k := r.IntN(len(l))
		l[k] = pick(r, -1, r.IntN(6), 6+r.IntN(60), l[r.IntN(len(l))], l[r.IntN(len(l))], pick(r, -2, 66, math.MinInt, math.MaxInt, int(r.Uint64())))
	}
	if r.IntN(20) == 0 {
		l = pick(r, l[1:], append(l, 5))
	}
	return l
}

// hold holds all that is asked of a code and places against the reckoning, and tells what they are wrong by.
func hold(t *testing.T, r *rand.Rand, c api.Code, l []int) (by int, ran bool) {
	t.Helper()
	by = wrong(c, l)
	if check.Right(c, l) != (by == 0) {
		t.Fatalf("%s: %v: right: %t; it is wrong by %b", told(c), l, by != 0, by)
	}
	params := make([]int, max(0, min(c.Params, 100)))
	for i := range params {
		params[i] = someNumber(r)
	}
	if r.IntN(20) == 0 {
		params = append(params, 1)
	}
	if !mayExec(c, l, len(params)) {
		holdNone(t, c, l, params)
	} else {
		v, trap := reckonedExec(c, l, params)
		holdExec(t, c, l, params, v, trap)
		ran = true
	}
	if t.Failed() {
		t.FailNow()
	}
	return by, ran
}

// tally counts how often places are wrong by one thing alone (right: by nothing), and codes that were carried out.
type tally struct {
	wrong [wrongs]int
	ran   int
}

func (n *tally) add(by int, ran bool) {
	n.wrong[by]++
	if ran {
		n.ran++
	}
}

func TestSmallCodesByChance(t *testing.T) {
	r := rand.New(rand.NewPCG(18, 1))
	var n tally
	for i := range 40000 {
		some := someInstr
		if i%2 == 0 {
			some = somePlain
		}
		c := someCode(r, 8, 24, some)
		l := somePlaces(r, c)
		if r.IntN(5) == 0 {
			spoil(r, &c)
		}
		n.add(hold(t, r, c, l))
	}
	for _, by := range []int{0, byForm, byCount, byNumber, byNoPlace, byRegister, byClash} {
		if n.wrong[by] < 300 {
			t.Errorf("wrong by %b alone: %d", by, n.wrong[by])
		}
	}
	if n.ran < 5000 {
		t.Errorf("%d codes are carried out", n.ran)
	}
}

// TestGreatCodesByChance: up to the bounds.
func TestGreatCodesByChance(t *testing.T) {
	r := rand.New(rand.NewPCG(18, 2))
	var n tally
	for i := range 120 {
		some := someInstr
		if i%2 == 0 {
			some = somePlain
		}
		c := someCode(r, 60, 400, some)
		if i%20 < 2 {
			c.Cells, c.Params = 60, 4
			for len(c.Body) < 1000 {
				c.Body = append(c.Body, some(r, 60, 1))
			}
		}
		for range 5 {
			n.add(hold(t, r, c, somePlaces(r, c)))
		}
	}
	if n.wrong[0] < 100 || n.wrong[byClash] < 100 || n.ran < 100 {
		t.Errorf("%v; %d are carried out", n.wrong, n.ran)
	}
}

// TestAnyNumbers: whatever stands in the fields, there is an answer.
func TestAnyNumbers(t *testing.T) {
	r := rand.New(rand.NewPCG(18, 3))
	number := func() int {
		return pick(r, r.IntN(18), r.IntN(18), r.IntN(3), r.IntN(3), -1-r.IntN(2), int(r.Uint64()), pick(r, outsides()...))
	}
	var n tally
	for range 60000 {
		cells := pick(r, 1, 3, 18)
		c := api.Code{Cells: pick(r, number(), cells, cells, cells), Params: pick(r, number(), 0, 0), Labels: number()}
		for range r.IntN(5) {
			x := api.Ir{Op: r.IntN(18), Dst: number(), A: number(), B: number(), C: number(), N: number(), M: number()}
			if x.Op == api.IrReturn && x.A < 0 {
				x.A = -1
			}
			c.Body = append(c.Body, x)
		}
		l := run(6, 6+min(max(c.Cells, 0), 20))
		if r.IntN(4) == 0 && len(l) > 0 {
			l[r.IntN(len(l))] = number()
		}
		n.add(hold(t, r, c, l))
	}
	if n.wrong[0] < 2000 || n.wrong[byForm] < 2000 || n.ran < 1000 {
		t.Errorf("%v; %d are carried out", n.wrong, n.ran)
	}
}

// P4

// TestTheSameAgain: what is asked in between changes nothing.
func TestTheSameAgain(t *testing.T) {
	r := rand.New(rand.NewPCG(18, 4))
	type asked struct {
		c         api.Code
		l, params []int
		right     bool
		v, trap   int
		e         api.Errno
	}
	var all []asked
	for range 200 {
		x := asked{c: someCode(r, 8, 24, somePlain)}
		x.l, x.params = somePlaces(r, x.c), make([]int, x.c.Params)
		x.right = check.Right(x.c, x.l)
		x.v, x.trap, x.e = check.Exec(x.c, x.l, x.params)
		all = append(all, x)
	}
	for _, x := range slices.Backward(all) {
		right := check.Right(x.c, x.l)
		v, trap, e := check.Exec(x.c, x.l, x.params)
		if right != x.right || v != x.v || trap != x.trap || e != x.e {
			t.Errorf("%s over %v: %t, %d, %d, %d; was %t, %d, %d, %d", told(x.c), x.l, right, v, trap, e, x.right, x.v, x.trap, x.e)
		}
	}
}
