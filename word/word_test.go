package word_test

import (
	"math"
	"testing"

	"oubliette/api"
	"oubliette/word"
)

// Edges of 32 bits, as the values that they are.
const (
	minus1 = 0xffffffff
	least  = 0x80000000
	most   = 0x7fffffff
)

// P2.1

func TestArityOfEachInstruction(t *testing.T) {
	for _, r := range rows() {
		for at, op := range r.ops {
			n, from, to, ok := word.Arity(op)
			if n != r.takes || from != r.from || to != r.to || !ok {
				t.Errorf("Arity(%x), the %d. of %s: %d %d %d %v; want %d %d %d", op, at, r.name, n, from, to, ok, r.takes, r.from, r.to)
			}
		}
	}
}

func TestOtherNumbersAreNoInstruction(t *testing.T) {
	known := map[int]int{}
	for _, r := range rows() {
		for _, op := range r.ops {
			known[op]++
		}
	}
	if len(known) != 55 {
		t.Fatalf("%d instructions; the chapter has 55", len(known))
	}
	others := []int{math.MinInt, math.MinInt + api.I32Add, -1 << 32, 1<<32 + api.I32Add, 1<<8 + api.I64Eq, -api.I32Add, math.MaxInt}
	for op := -1000; op <= 1000; op++ {
		others = append(others, op)
	}
	for _, op := range others {
		if known[op] > 0 {
			continue
		}
		if n, from, to, ok := word.Arity(op); n != 0 || from != 0 || to != 0 || ok {
			t.Errorf("Arity(%d) = %d %d %d %v; want 0 0 0 false", op, n, from, to, ok)
		}
		for _, a := range []int{0, 1, 7, -1, math.MinInt} {
			for _, b := range []int{0, 1, 3, -1, math.MaxInt} {
				if v, trap := word.Eval(op, a, b); v != 0 || trap != 0 {
					t.Errorf("Eval(%d, %d, %d) = %d, %d; want 0, 0", op, a, b, v, trap)
				}
			}
		}
	}
}

func TestNeighboursOfTheGroupsAreNoInstructions(t *testing.T) {
	for _, op := range []int{
		api.I32Eqz - 1, api.I64GeU + 1, api.I32Add - 1, api.I32Rotr + 1, api.I64Add - 1, api.I64Rotr + 1,
		api.I32Wrap - 1, api.I32Wrap + 1, api.I64ExtendS - 1, api.I64ExtendU + 1,
		api.Unreachable, api.Call, api.Drop, api.Select, api.I32Load, api.I64Store, api.I32Const, api.I64Const, api.Classify, api.Declassify,
	} {
		if n, from, to, ok := word.Arity(op); n != 0 || from != 0 || to != 0 || ok {
			t.Errorf("Arity(%x) = %d %d %d %v; want 0 0 0 false", op, n, from, to, ok)
		}
		if v, trap := word.Eval(op, 6, 0); v != 0 || trap != 0 {
			t.Errorf("Eval(%x, 6, 0) = %d, %d; want 0, 0", op, v, trap)
		}
	}
}

// P2.2

func TestTrim(t *testing.T) {
	for _, c := range [][2]int{
		{0, 0}, {1, 1}, {-1, minus1}, {most, most}, {least, least}, {minus1, minus1}, {1 << 32, 0}, {1<<32 + 5, 5},
		{-1 << 31, least}, {-1 << 32, 0}, {math.MinInt, 0}, {math.MinInt + 1, 1}, {math.MaxInt, minus1}, {-2, 0xfffffffe},
	} {
		if got := word.Trim(false, c[0]); got != c[1] {
			t.Errorf("Trim(false, %x) = %x; want %x", c[0], got, c[1])
		}
		if got := word.Trim(true, c[0]); got != c[0] {
			t.Errorf("Trim(true, %x) = %x", c[0], got)
		}
	}
}

type reckoning struct{ op, a, b, v, trap int }

func (c reckoning) hold(t *testing.T) {
	t.Helper()
	if v, trap := word.Eval(c.op, c.a, c.b); v != c.v || trap != c.trap {
		t.Errorf("Eval(%x, %x, %x) = %x, %d; want %x, %d", c.op, c.a, c.b, v, trap, c.v, c.trap)
	}
}

func TestExamples(t *testing.T) {
	for _, c := range []reckoning{
		{api.I32Sub, 0, 1, minus1, 0},
		{api.I32LtS, minus1, 0, 1, 0},
		{api.I32DivS, least, minus1, 0, api.TrapOver},
		{api.I64ShrS, -8, 65, -4, 0},
		{api.I32Rotl, 0x80000001, 1, 3, 0},
	} {
		c.hold(t)
	}
}

func TestComparisons(t *testing.T) {
	for _, c := range []reckoning{
		{api.I32Eqz, 0, 9, 1, 0}, {api.I32Eqz, 0, 0, 1, 0}, {api.I32Eqz, 1, 1, 0, 0}, {api.I32Eqz, 1 << 32, 7, 1, 0}, {api.I32Eqz, least, 0, 0, 0},
		{api.I64Eqz, 0, -1, 1, 0}, {api.I64Eqz, 1 << 32, 0, 0, 0}, {api.I64Eqz, math.MinInt, math.MinInt, 0, 0},
		{api.I32Eq, 5, 5 + 1<<32, 1, 0}, {api.I32Eq, -1, minus1, 1, 0}, {api.I64Eq, -1, minus1, 0, 0}, {api.I32Ne, 5, 5 - 1<<32, 0, 0}, {api.I64Ne, 5, 5 - 1<<32, 1, 0},
		{api.I32LtS, least, most, 1, 0}, {api.I32LtU, least, most, 0, 0}, {api.I32GtS, least, most, 0, 0}, {api.I32GtU, least, most, 1, 0},
		{api.I32LeS, minus1, 0, 1, 0}, {api.I32LeU, minus1, 0, 0, 0}, {api.I32GeS, minus1, 0, 0, 0}, {api.I32GeU, minus1, 0, 1, 0},
		{api.I32LtS, 4, 4, 0, 0}, {api.I32LeS, 4, 4, 1, 0}, {api.I32GtU, 4, 4, 0, 0}, {api.I32GeU, 4, 4, 1, 0},
		{api.I64LtS, math.MinInt, math.MaxInt, 1, 0}, {api.I64LtU, math.MinInt, math.MaxInt, 0, 0}, {api.I64GtS, minus1, 0, 1, 0}, {api.I64GtU, -1, 0, 1, 0},
		{api.I64LeS, -1, -1, 1, 0}, {api.I64LeU, 0, -1, 1, 0}, {api.I64GeS, 0, -1, 1, 0}, {api.I64GeU, 0, -1, 0, 0},
	} {
		c.hold(t)
	}
}

func TestWhatGoesBeyondTheWidthIsLost(t *testing.T) {
	for _, c := range []reckoning{
		{api.I32Add, minus1, 1, 0, 0}, {api.I32Add, most, 1, least, 0}, {api.I32Add, 1<<40 + 2, -1 << 50, 2, 0}, {api.I64Add, math.MaxInt, 1, math.MinInt, 0},
		{api.I32Sub, least, 1, most, 0}, {api.I64Sub, math.MinInt, 1, math.MaxInt, 0}, {api.I64Sub, 0, math.MinInt, math.MinInt, 0},
		{api.I32Mul, 0x10000, 0x10000, 0, 0}, {api.I32Mul, minus1, minus1, 1, 0}, {api.I64Mul, 1 << 32, 1 << 32, 0, 0}, {api.I64Mul, math.MinInt, -1, math.MinInt, 0},
		{api.I32And, -1, -1, minus1, 0}, {api.I32Or, -1 << 32, 5, 5, 0}, {api.I32Xor, -1, 0, minus1, 0},
		{api.I64And, 12, 10, 8, 0}, {api.I64Or, 12, 10, 14, 0}, {api.I64Xor, 12, 10, 6, 0}, {api.I64Xor, -1, math.MaxInt, math.MinInt, 0},
	} {
		c.hold(t)
	}
}

func TestDivisions(t *testing.T) {
	for _, c := range []reckoning{
		{api.I32DivS, 0xfffffff9, 2, 0xfffffffd, 0}, {api.I32RemS, 0xfffffff9, 2, minus1, 0}, {api.I32DivS, 7, 0xfffffffe, 0xfffffffd, 0}, {api.I32RemS, 7, 0xfffffffe, 1, 0},
		{api.I32DivU, 0xfffffff9, 2, 0x7ffffffc, 0}, {api.I32RemU, 0xfffffff9, 10, 9, 0},
		{api.I64DivS, -7, 2, -3, 0}, {api.I64RemS, -7, 2, -1, 0}, {api.I64DivS, 7, -2, -3, 0}, {api.I64RemS, 7, -2, 1, 0},
		{api.I64DivU, -1, 2, math.MaxInt, 0}, {api.I64RemU, -1, 10, 5, 0}, {api.I64DivU, math.MinInt, -1, 0, 0}, {api.I64RemU, math.MinInt, -1, math.MinInt, 0},
		{api.I32DivU, least, minus1, 0, 0}, {api.I32RemU, least, minus1, least, 0}, {api.I64DivU, 1, math.MinInt, 0, 0}, {api.I64DivU, -1, math.MinInt, 1, 0},
	} {
		c.hold(t)
	}
}

func TestTheLeastNumberByMinusOne(t *testing.T) {
	for _, c := range []reckoning{
		{api.I32DivS, least, minus1, 0, api.TrapOver}, {api.I32DivS, -1 << 31, -1, 0, api.TrapOver}, {api.I32DivS, 1<<40 + least, -1, 0, api.TrapOver},
		{api.I64DivS, math.MinInt, -1, 0, api.TrapOver},
		{api.I32RemS, least, minus1, 0, 0}, {api.I64RemS, math.MinInt, -1, 0, 0},
		{api.I32DivS, least + 1, minus1, most, 0}, {api.I64DivS, math.MinInt + 1, -1, math.MaxInt, 0},
		{api.I32DivS, least, 1, least, 0}, {api.I64DivS, math.MinInt, 1, math.MinInt, 0},
		{api.I64DivS, -1 << 31, -1, 1 << 31, 0}, {api.I64DivS, least, minus1, 0, 0},
	} {
		c.hold(t)
	}
}

func TestDivisorsOfNought(t *testing.T) {
	for _, op := range []int{api.I32DivS, api.I32DivU, api.I32RemS, api.I32RemU} {
		for _, a := range numbers() {
			for _, b := range []int{0, 1 << 32, -1 << 32, 1 << 62, math.MinInt} {
				reckoning{op, a, b, 0, api.TrapZero}.hold(t)
			}
		}
	}
	for _, op := range []int{api.I64DivS, api.I64DivU, api.I64RemS, api.I64RemU} {
		for _, a := range numbers() {
			reckoning{op, a, 0, 0, api.TrapZero}.hold(t)
		}
		reckoning{op, 0, 1 << 32, 0, 0}.hold(t)
	}
}

func TestShiftsAndTurns(t *testing.T) {
	for _, c := range []reckoning{
		{api.I32Shl, 1, 0, 1, 0}, {api.I32Shl, 1, 31, least, 0}, {api.I32Shl, 1, 32, 1, 0}, {api.I32Shl, 1, 33, 2, 0}, {api.I32Shl, 3, -1, least, 0}, {api.I32Shl, 3, -32, 3, 0},
		{api.I32ShrS, least, 0, least, 0}, {api.I32ShrS, least, 31, minus1, 0}, {api.I32ShrS, least, 32, least, 0}, {api.I32ShrS, least, -1, minus1, 0}, {api.I32ShrS, most, 31, 0, 0},
		{api.I32ShrU, least, 0, least, 0}, {api.I32ShrU, least, 31, 1, 0}, {api.I32ShrU, least, 32, least, 0}, {api.I32ShrU, least, -31, 0x40000000, 0}, {api.I32ShrU, -1, 4, 0x0fffffff, 0},
		{api.I32Rotl, 0x12345678, 0, 0x12345678, 0}, {api.I32Rotl, 0x12345678, 8, 0x34567812, 0}, {api.I32Rotl, 1, 31, least, 0}, {api.I32Rotl, 0x12345678, 32, 0x12345678, 0}, {api.I32Rotl, 0x12345678, -8, 0x78123456, 0},
		{api.I32Rotr, 0x12345678, 0, 0x12345678, 0}, {api.I32Rotr, 0x12345678, 8, 0x78123456, 0}, {api.I32Rotr, 1, 31, 2, 0}, {api.I32Rotr, 0x12345678, 64, 0x12345678, 0}, {api.I32Rotr, 0x12345678, -8, 0x34567812, 0},
		{api.I64Shl, 1, 63, math.MinInt, 0}, {api.I64Shl, 1, 64, 1, 0}, {api.I64Shl, 1, 32, 1 << 32, 0}, {api.I64Shl, 1, -1, math.MinInt, 0},
		{api.I64ShrS, math.MinInt, 63, -1, 0}, {api.I64ShrS, -8, 64, -8, 0}, {api.I64ShrS, -8, -64, -8, 0}, {api.I64ShrU, math.MinInt, 63, 1, 0}, {api.I64ShrU, -1, 0, -1, 0}, {api.I64ShrU, -1, 127, 1, 0},
		{api.I64Rotl, 0x0123456789abcdef, 8, 0x23456789abcdef01, 0}, {api.I64Rotl, math.MinInt, 1, 1, 0}, {api.I64Rotl, 5, 0, 5, 0}, {api.I64Rotl, 5, 64, 5, 0}, {api.I64Rotl, 1, 63, math.MinInt, 0}, {api.I64Rotl, 1, -1, math.MinInt, 0},
		{api.I64Rotr, 0x0123456789abcdef, 8, -0x10fedcba98765433, 0}, {api.I64Rotr, 1, 1, math.MinInt, 0}, {api.I64Rotr, 5, 0, 5, 0}, {api.I64Rotr, 5, 64, 5, 0}, {api.I64Rotr, 1, 63, 2, 0}, {api.I64Rotr, math.MinInt, -1, 1, 0},
	} {
		c.hold(t)
	}
}

func TestChangesOfWidth(t *testing.T) {
	for _, c := range []reckoning{
		{api.I32Wrap, -1, 0, minus1, 0}, {api.I32Wrap, 1<<32 + 9, 4, 9, 0}, {api.I32Wrap, math.MinInt, 1, 0, 0}, {api.I32Wrap, least, 0, least, 0},
		{api.I64ExtendS, least, 0, -1 << 31, 0}, {api.I64ExtendS, minus1, 8, -1, 0}, {api.I64ExtendS, most, 0, most, 0}, {api.I64ExtendS, 1<<32 + 3, 0, 3, 0}, {api.I64ExtendS, -1 << 31, 0, -1 << 31, 0},
		{api.I64ExtendU, least, 0, least, 0}, {api.I64ExtendU, -1, 3, minus1, 0}, {api.I64ExtendU, 1<<32 + 3, 0, 3, 0}, {api.I64ExtendU, math.MinInt, 0, 0, 0},
	} {
		c.hold(t)
	}
}

func TestEachInstructionAsTheChapterSays(t *testing.T) {
	for _, r := range rows() {
		for at, op := range r.ops {
			for _, a := range numbers() {
				for _, b := range numbers() {
					v, trap := reckoned(r, r.names[at], a, b)
					reckoning{op, a, b, v, trap}.hold(t)
				}
			}
		}
	}
}

func TestOneValueIsAllThatSomeTake(t *testing.T) {
	for _, op := range []int{api.I32Eqz, api.I64Eqz, api.I32Wrap, api.I64ExtendS, api.I64ExtendU} {
		for _, a := range numbers() {
			v, trap := word.Eval(op, a, 0)
			for _, b := range numbers() {
				reckoning{op, a, b, v, trap}.hold(t)
			}
		}
	}
}

// P2.3

func TestEachResultIsOneOfItsWidth(t *testing.T) {
	for _, r := range rows() {
		for _, op := range r.ops {
			for _, a := range numbers() {
				for _, b := range numbers() {
					if v, _ := word.Eval(op, a, b); r.to == 0 && (v < 0 || v > minus1) {
						t.Errorf("Eval(%x, %x, %x) = %x: not of 32 bits", op, a, b, v)
					}
				}
			}
		}
	}
}

func TestQuotientTimesDivisorAndTheRestAreWhatWasDivided(t *testing.T) {
	for _, c := range []struct {
		div, rem, mul, add int
		wide               bool
	}{
		{api.I32DivS, api.I32RemS, api.I32Mul, api.I32Add, false},
		{api.I32DivU, api.I32RemU, api.I32Mul, api.I32Add, false},
		{api.I64DivS, api.I64RemS, api.I64Mul, api.I64Add, true},
		{api.I64DivU, api.I64RemU, api.I64Mul, api.I64Add, true},
	} {
		for _, a := range numbers() {
			for _, b := range numbers() {
				q, trap := word.Eval(c.div, a, b)
				if trap != 0 {
					continue
				}
				rest, _ := word.Eval(c.rem, a, b)
				product, _ := word.Eval(c.mul, q, b)
				if sum, _ := word.Eval(c.add, product, rest); sum != word.Trim(c.wide, a) {
					t.Errorf("%x: %x by %x: %x, rest %x", c.div, a, b, q, rest)
				}
			}
		}
	}
}

// P4 and P1.

func TestAnswersStayTheSame(t *testing.T) {
	for op := -3; op < 300; op++ {
		for _, a := range []int{0, 1, -1, math.MinInt, math.MaxInt} {
			for _, b := range []int{0, 1, -1, math.MinInt, math.MaxInt} {
				v, trap := word.Eval(op, a, b)
				word.Eval(op+1, b, a)
				reckoning{op, a, b, v, trap}.hold(t)
			}
		}
	}
}
