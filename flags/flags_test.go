package flags_test

import (
	"math"
	"testing"

	"oubliette/api"
	"oubliette/flags"
)

// Edges of 32 bits, as the values that they are.
const (
	minus1 = 0xffffffff
	least  = 0x80000000
	most   = 0x7fffffff
)

var none = api.Flags{}

// flagsOf reads a text: each letter is a flag that is set.
func flagsOf(text string) (f api.Flags) {
	for _, letter := range text {
		switch letter {
		case 'Z':
			f.Z = true
		case 'S':
			f.S = true
		case 'C':
			f.C = true
		case 'O':
			f.O = true
		}
	}
	return f
}

// P10.1

func TestTrim(t *testing.T) {
	for _, c := range [][2]int{
		{0, 0}, {1, 1}, {-1, minus1}, {most, most}, {least, least}, {minus1, minus1}, {1 << 32, 0}, {1<<32 + 5, 5},
		{-1 << 31, least}, {-1 << 32, 0}, {math.MinInt, 0}, {math.MinInt + 1, 1}, {math.MaxInt, minus1}, {-2, 0xfffffffe},
	} {
		if got := flags.Trim(false, c[0]); got != c[1] {
			t.Errorf("Trim(false, %x) = %x; want %x", c[0], got, c[1])
		}
		if got := flags.Trim(true, c[0]); got != c[0] {
			t.Errorf("Trim(true, %x) = %x", c[0], got)
		}
	}
}

type sum struct {
	kind    int
	wide    bool
	a, b, v int
	flags   string
}

func (c sum) hold(t *testing.T) {
	t.Helper()
	if v, f, ok := flags.Alu(c.kind, c.wide, c.a, c.b); v != c.v || f != flagsOf(c.flags) || !ok {
		t.Errorf("Alu(%d, %v, %x, %x) = %x, %+v, %v; want %x, %q", c.kind, c.wide, c.a, c.b, v, f, ok, c.v, c.flags)
	}
}

func TestExamples(t *testing.T) {
	sum{api.Sub, false, 0, 1, minus1, "SC"}.hold(t)
	if q, r, ok := flags.Idiv(false, minus1, least, minus1); q != 0 || r != 0 || ok {
		t.Error("Idiv", q, r, ok)
	}
}

func TestSums(t *testing.T) {
	for _, c := range []sum{
		{api.Add, false, 2, 3, 5, ""}, {api.Add, false, 0, 0, 0, "Z"}, {api.Add, false, minus1, 1, 0, "ZC"}, {api.Add, false, most, 1, least, "SO"},
		{api.Add, false, least, least, 0, "ZCO"}, {api.Add, false, minus1, minus1, 0xfffffffe, "SC"}, {api.Add, false, least, minus1, most, "CO"}, {api.Add, false, most, least, minus1, "S"},
		{api.Add, true, 2, 3, 5, ""}, {api.Add, true, -1, 1, 0, "ZC"}, {api.Add, true, math.MaxInt, 1, math.MinInt, "SO"}, {api.Add, true, math.MinInt, math.MinInt, 0, "ZCO"},
		{api.Add, true, -1, -1, -2, "SC"}, {api.Add, true, math.MinInt, -1, math.MaxInt, "CO"}, {api.Add, true, math.MaxInt, math.MinInt, -1, "S"},
		{api.Add, true, minus1, 1, 1 << 32, ""}, {api.Add, true, most, 1, least, ""},
	} {
		c.hold(t)
	}
}

func TestDifferences(t *testing.T) {
	for _, c := range []sum{
		{api.Sub, false, 5, 3, 2, ""}, {api.Sub, false, 5, 5, 0, "Z"}, {api.Sub, false, 3, 5, 0xfffffffe, "SC"}, {api.Sub, false, least, 1, most, "O"},
		{api.Sub, false, 0, least, least, "SCO"}, {api.Sub, false, most, minus1, least, "SCO"}, {api.Sub, false, minus1, most, least, "S"}, {api.Sub, false, 0, minus1, 1, "C"},
		{api.Sub, true, 5, 3, 2, ""}, {api.Sub, true, 5, 5, 0, "Z"}, {api.Sub, true, 3, 5, -2, "SC"}, {api.Sub, true, math.MinInt, 1, math.MaxInt, "O"},
		{api.Sub, true, 0, math.MinInt, math.MinInt, "SCO"}, {api.Sub, true, math.MaxInt, -1, math.MinInt, "SCO"}, {api.Sub, true, -1, math.MaxInt, math.MinInt, "S"}, {api.Sub, true, 0, -1, 1, "C"},
		{api.Sub, true, least, 1, most, ""}, {api.Sub, true, 0, minus1, -minus1, "SC"},
	} {
		c.hold(t)
		c.kind, c.v = api.Cmp, c.a
		c.hold(t)
	}
}

func TestBitsLeaveNeitherCarryNorOverflow(t *testing.T) {
	for _, c := range []sum{
		{api.Or, false, 12, 10, 14, ""}, {api.And, false, 12, 10, 8, ""}, {api.Xor, false, 12, 10, 6, ""},
		{api.Or, true, 12, 10, 14, ""}, {api.And, true, 12, 10, 8, ""}, {api.Xor, true, 12, 10, 6, ""},
		{api.Or, false, 0, 0, 0, "Z"}, {api.And, false, 12, 3, 0, "Z"}, {api.Xor, false, minus1, minus1, 0, "Z"}, {api.Xor, true, -1, -1, 0, "Z"},
		{api.Or, false, least, 1, least + 1, "S"}, {api.And, false, minus1, least, least, "S"}, {api.Xor, false, most, minus1, least, "S"},
		{api.Or, true, math.MinInt, 1, math.MinInt + 1, "S"}, {api.And, true, -1, math.MinInt, math.MinInt, "S"}, {api.Xor, true, math.MaxInt, -1, math.MinInt, "S"},
		{api.Or, true, least, 0, least, ""}, {api.And, true, -1, least, least, ""}, {api.Xor, true, 0, minus1, minus1, ""},
	} {
		c.hold(t)
	}
}

func TestUpperHalvesDoNotCountWhereNotWide(t *testing.T) {
	for _, c := range []sum{
		{api.Add, false, 1 << 40, 5, 5, ""}, {api.Add, false, -1, 1, 0, "ZC"}, {api.Add, false, math.MinInt, math.MinInt, 0, "Z"}, {api.Add, false, -1 << 32, 2, 2, ""},
		{api.Sub, false, 1, 1 << 32, 1, ""}, {api.Sub, false, -1 << 63, 0, 0, "Z"}, {api.Sub, false, 7 - 1<<32, 7, 0, "Z"},
		{api.Cmp, false, -1, 1, minus1, "S"}, {api.Cmp, false, 1<<32 + 5, 5, 5, "Z"}, {api.Cmp, false, 1<<32 + 5, 6, 5, "SC"},
		{api.Or, false, -1 << 32, 0, 0, "Z"}, {api.And, false, -1, 1 << 32, 0, "Z"}, {api.And, false, -1, -1, minus1, "S"}, {api.Xor, false, -1 << 32, 3, 3, ""},
	} {
		c.hold(t)
	}
}

// strangers are numbers that are none of known: all small ones, and such as have a known one's low bits.
func strangers(known ...int) []int {
	is := map[int]int{}
	out := []int{math.MinInt, math.MaxInt, math.MinInt + 1}
	for _, k := range known {
		is[k]++
		out = append(out, k+1<<8, k-1<<8, k+1<<32, k-1<<32, k+math.MinInt)
	}
	for n := -300; n <= 300; n++ {
		if is[n] == 0 {
			out = append(out, n)
		}
	}
	return out
}

func TestOtherKindsAreNone(t *testing.T) {
	for _, kind := range strangers(kinds...) {
		for _, wide := range []bool{false, true} {
			for _, ab := range [][2]int{{0, 0}, {1, 2}, {0, 1}, {-1, 1}, {math.MinInt, math.MinInt}} {
				if v, f, ok := flags.Alu(kind, wide, ab[0], ab[1]); v != 0 || f != none || ok {
					t.Errorf("Alu(%d, %v, %x, %x) = %x, %+v, %v", kind, wide, ab[0], ab[1], v, f, ok)
				}
			}
		}
	}
}

// P10.2

func TestConditions(t *testing.T) {
	// Each text is the flags at which the condition holds, of all sixteen: 1 at place 8 Z, 4 S, 2 C and 1 O.
	for cond, want := range map[int]string{
		api.CB:  "0011001100110011",
		api.CAE: "1100110011001100",
		api.CE:  "0000000011111111",
		api.CNE: "1111111100000000",
		api.CBE: "0011001111111111",
		api.CA:  "1100110000000000",
		api.CL:  "0101101001011010",
		api.CGE: "1010010110100101",
		api.CLE: "0101101011111111",
		api.CG:  "1010010100000000",
	} {
		for at, f := range allFlags() {
			if holds, ok := flags.Holds(cond, f); holds != (want[at] == '1') || !ok {
				t.Errorf("Holds(%d, %+v) = %v, %v", cond, f, holds, ok)
			}
		}
	}
}

func TestOtherConditionsAreNone(t *testing.T) {
	for _, cond := range strangers(conditions...) {
		for _, f := range allFlags() {
			if holds, ok := flags.Holds(cond, f); holds || ok {
				t.Errorf("Holds(%d, %+v) = %v, %v", cond, f, holds, ok)
			}
		}
	}
}

// P10.3

type move struct {
	kind       int
	wide       bool
	v, n, want int
}

func TestShifts(t *testing.T) {
	for _, c := range []move{
		{api.Rol, false, 0x80000001, 1, 3}, {api.Rol, false, 0x12345678, 8, 0x34567812}, {api.Rol, false, 0x12345678, 0, 0x12345678}, {api.Rol, false, 1, 31, least},
		{api.Ror, false, 1, 1, least}, {api.Ror, false, 0x12345678, 8, 0x78123456}, {api.Ror, false, 0x12345678, 0, 0x12345678}, {api.Ror, false, least, 31, 1},
		{api.Shl, false, minus1, 4, 0xfffffff0}, {api.Shl, false, 3, 31, least}, {api.Shl, false, 5, 0, 5},
		{api.Shr, false, least, 31, 1}, {api.Shr, false, minus1, 4, 0x0fffffff}, {api.Shr, false, least, 0, least},
		{api.Sar, false, least, 31, minus1}, {api.Sar, false, least, 4, 0xf8000000}, {api.Sar, false, most, 30, 1}, {api.Sar, false, least, 0, least},
		{api.Rol, true, math.MinInt + 1, 1, 3}, {api.Rol, true, 0x123456789abcdef0, 32, -0x6543210fedcba988}, {api.Rol, true, 1, 63, math.MinInt}, {api.Rol, true, -5, 0, -5},
		{api.Ror, true, 1, 1, math.MinInt}, {api.Ror, true, 0x123456789abcdef0, 4, 0x0123456789abcdef}, {api.Ror, true, math.MinInt, 63, 1}, {api.Ror, true, -5, 0, -5},
		{api.Shl, true, -1, 4, -16}, {api.Shl, true, 3, 63, math.MinInt}, {api.Shl, true, minus1, 4, 0xffffffff0},
		{api.Shr, true, math.MinInt, 63, 1}, {api.Shr, true, -1, 1, math.MaxInt}, {api.Shr, true, -1, 0, -1},
		{api.Sar, true, math.MinInt, 63, -1}, {api.Sar, true, -8, 1, -4}, {api.Sar, true, least, 31, 1}, {api.Sar, true, math.MaxInt, 62, 1},
	} {
		c.hold(t)
	}
}

func (c move) hold(t *testing.T) {
	t.Helper()
	if v, ok := flags.Shift(c.kind, c.wide, c.v, c.n); v != c.want || !ok {
		t.Errorf("Shift(%d, %v, %x, %d) = %x, %v; want %x", c.kind, c.wide, c.v, c.n, v, ok, c.want)
	}
}

func TestShiftsAreByWhatIsLeftOfNAtTheWidth(t *testing.T) {
	for _, c := range []move{
		{api.Shl, false, 1, 32, 1}, {api.Shl, false, 1, 33, 2}, {api.Shl, false, 1, -1, least}, {api.Shl, false, 1, math.MinInt, 1}, {api.Shl, false, 1, math.MaxInt, least}, {api.Shl, false, 1, 1<<32 + 3, 8},
		{api.Shl, true, 1, 32, 1 << 32}, {api.Shl, true, 1, 64, 1}, {api.Shl, true, 1, 65, 2}, {api.Shl, true, 1, -1, math.MinInt}, {api.Shl, true, 1, math.MinInt + 2, 4},
		{api.Shr, false, least, 63, 1}, {api.Sar, false, least, -1, minus1}, {api.Ror, false, 1, 33, least}, {api.Rol, false, least, 33, 1}, {api.Rol, false, 6, 64, 6},
		{api.Shr, true, math.MinInt, -1, 1}, {api.Sar, true, math.MinInt, 127, -1}, {api.Ror, true, 1, 65, math.MinInt}, {api.Rol, true, math.MinInt, 129, 1}, {api.Ror, true, 6, -64, 6},
	} {
		c.hold(t)
	}
}

func TestShiftsOfUpperHalvesThatDoNotCount(t *testing.T) {
	for _, c := range []move{
		{api.Rol, false, -1 << 32, 5, 0}, {api.Ror, false, 1<<40 + 2, 1, 1}, {api.Shl, false, -1 << 31, 1, 0}, {api.Shr, false, -1, 1, most},
		{api.Sar, false, 1<<32 + 4, 1, 2}, {api.Sar, false, -1<<63 + 4, 1, 2}, {api.Sar, false, 1<<32 + least, 1, 0xc0000000}, {api.Shl, false, -1, 0, minus1},
	} {
		c.hold(t)
	}
}

func TestOtherShiftsAreNone(t *testing.T) {
	for _, kind := range strangers(shifts...) {
		for _, wide := range []bool{false, true} {
			for _, n := range []int{0, 1, 33, -1} {
				if v, ok := flags.Shift(kind, wide, 0x87654321, n); v != 0 || ok {
					t.Errorf("Shift(%d, %v, 87654321, %d) = %x, %v", kind, wide, n, v, ok)
				}
			}
		}
	}
}

type quotient struct {
	wide          bool
	high, low, by int
	quot, rest    int
	ok            bool
}

func (c quotient) hold(t *testing.T, name string, divide func(bool, int, int, int) (int, int, bool)) {
	t.Helper()
	if q, r, ok := divide(c.wide, c.high, c.low, c.by); q != c.quot || r != c.rest || ok != c.ok {
		t.Errorf("%s(%v, %x, %x, %x) = %x, %x, %v; want %x, %x, %v", name, c.wide, c.high, c.low, c.by, q, r, ok, c.quot, c.rest, c.ok)
	}
}

func TestDiv(t *testing.T) {
	for _, c := range []quotient{
		{false, 0, 7, 2, 3, 1, true}, {false, 1, 5, 2, 0x80000002, 1, true}, {false, 0, minus1, 1, minus1, 0, true}, {false, 0, minus1, minus1, 1, 0, true},
		{false, 2, minus1, 3, minus1, 2, true}, {false, 0xfffffffe, minus1, minus1, minus1, 0xfffffffe, true}, {false, 0xfffffffe, 2, minus1, minus1, 1, true}, {false, 0, 3, 5, 0, 3, true},
		{false, 3, 0, 3, 0, 0, false}, {false, 4, 0, 3, 0, 0, false}, {false, 1, 0, 1, 0, 0, false}, {false, 0, 5, 0, 0, 0, false}, {false, 0, 0, 0, 0, 0, false}, {false, minus1, minus1, minus1, 0, 0, false},
		{true, 0, 7, 2, 3, 1, true}, {true, 1, 5, 2, math.MinInt + 2, 1, true}, {true, 0, -1, 1, -1, 0, true}, {true, 0, -1, 10, 0x1999999999999999, 5, true},
		{true, 2, -1, 3, -1, 2, true}, {true, -2, -1, -1, -1, -2, true}, {true, 0, math.MinInt, -1, 0, math.MinInt, true}, {true, 0, -1, math.MinInt, 1, math.MaxInt, true},
		{true, 3, 0, 3, 0, 0, false}, {true, 4, 0, 3, 0, 0, false}, {true, -1, 0, 1, 0, 0, false}, {true, 0, 5, 0, 0, 0, false}, {true, -1, -1, -1, 0, 0, false}, {true, -1, 7, math.MaxInt, 0, 0, false},
	} {
		c.hold(t, "Div", flags.Div)
	}
}

func TestDivOfUpperHalvesThatDoNotCount(t *testing.T) {
	for _, c := range []quotient{
		{false, 1 << 32, 7, 2, 3, 1, true}, {false, -1 << 32, 7, 2, 3, 1, true}, {false, 0, 7 - 1<<32, 2, 3, 1, true}, {false, 0, 7, 2 + 1<<40, 3, 1, true},
		{false, 0, 7, 1 << 32, 0, 0, false}, {false, 3, 0, 3 + 1<<32, 0, 0, false}, {false, 1<<32 + 1, 5, -1<<32 + 2, 0x80000002, 1, true}, {false, 0, -1, -1, 1, 0, true},
	} {
		c.hold(t, "Div", flags.Div)
	}
}

func TestIdiv(t *testing.T) {
	for _, c := range []quotient{
		{false, 0, 7, 2, 3, 1, true}, {false, minus1, 0xfffffff9, 2, 0xfffffffd, minus1, true}, {false, 0, 7, 0xfffffffe, 0xfffffffd, 1, true}, {false, minus1, 0xfffffff9, 0xfffffffe, 3, minus1, true},
		{false, minus1, least, 1, least, 0, true}, {false, 0, most, minus1, 0x80000001, 0, true}, {false, minus1, least, least, 1, 0, true}, {false, 0, most, least, 0, most, true}, {false, minus1, least, most, minus1, minus1, true},
		{false, 0, 0, 5, 0, 0, true}, {false, 0, 0, 0, 0, 0, false}, {false, minus1, 0xfffffff9, 0, 0, 0, false}, {false, minus1, least, minus1, 0, 0, false},
		{true, 0, 7, 2, 3, 1, true}, {true, -1, -7, 2, -3, -1, true}, {true, 0, 7, -2, -3, 1, true}, {true, -1, -7, -2, 3, -1, true},
		{true, -1, math.MinInt, 1, math.MinInt, 0, true}, {true, 0, math.MaxInt, -1, math.MinInt + 1, 0, true}, {true, -1, math.MinInt, math.MinInt, 1, 0, true}, {true, -1, -1 << 31, -1, 1 << 31, 0, true},
		{true, 0, 0, 0, 0, 0, false}, {true, -1, -7, 0, 0, 0, false}, {true, -1, math.MinInt, -1, 0, 0, false},
	} {
		c.hold(t, "Idiv", flags.Idiv)
	}
}

func TestIdivAsksForLowsSignInHigh(t *testing.T) {
	for _, c := range []quotient{
		{false, 0, least, 2, 0, 0, false}, {false, minus1, 7, 2, 0, 0, false}, {false, 1, 7, 2, 0, 0, false}, {false, most, least, 2, 0, 0, false}, {false, 0xfffffffe, 0xfffffff9, 9, 0, 0, false},
		{true, 0, -7, 2, 0, 0, false}, {true, -1, 7, 2, 0, 0, false}, {true, 1, 7, 9, 0, 0, false}, {true, -2, -7, 9, 0, 0, false}, {true, minus1, -7, 2, 0, 0, false}, {true, minus1, least, 2, 0, 0, false},
		{true, 0, least, 2, least / 2, 0, true},
	} {
		c.hold(t, "Idiv", flags.Idiv)
	}
}

func TestIdivOfUpperHalvesThatDoNotCount(t *testing.T) {
	for _, c := range []quotient{
		{false, 1 << 32, 7, 2, 3, 1, true}, {false, -1, 0xfffffff9, 2, 0xfffffffd, minus1, true}, {false, -1, -7, -2, 3, minus1, true}, {false, minus1, 1<<32 - 7, 1<<32 + 2, 0xfffffffd, minus1, true},
		{false, 0, -1<<32 + 7, 2, 3, 1, true}, {false, minus1, 1<<40 + least, -1, 0, 0, false}, {false, 0, 7, 1 << 32, 0, 0, false}, {false, -1, -1<<32 + 7, 2, 0, 0, false},
	} {
		c.hold(t, "Idiv", flags.Idiv)
	}
}
