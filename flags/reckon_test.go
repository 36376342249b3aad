package flags_test

import (
	"math"
	"math/big"
	"math/rand/v2"
	"slices"
	"testing"

	"oubliette/api"
	"oubliette/flags"
)

var kinds = []int{api.Add, api.Or, api.And, api.Sub, api.Xor, api.Cmp}
var shifts = []int{api.Rol, api.Ror, api.Shl, api.Shr, api.Sar}
var conditions = []int{api.CB, api.CAE, api.CE, api.CNE, api.CBE, api.CA, api.CL, api.CGE, api.CLE, api.CG}

// allFlags are all sixteen; at the place 8 Z, 4 S, 2 C and 1 O.
func allFlags() (out []api.Flags) {
	for n := range 16 {
		out = append(out, api.Flags{Z: n&8 != 0, S: n&4 != 0, C: n&2 != 0, O: n&1 != 0})
	}
	return out
}

// numbers are those around 0, around each width's bits and edges, and some by chance of many bits and few; each once.
func numbers() []int {
	var out []int
	for d := -2; d <= 2; d++ {
		for _, n := range []int{0, 32, 64, 1 << 31, 1 << 32, -1 << 31, -1 << 32, 3 << 31, 1 << 62} {
			out = append(out, n+d)
		}
	}
	for d := range 3 {
		out = append(out, math.MinInt+d, math.MaxInt-d)
	}
	chance := rand.New(rand.NewPCG(10, 1))
	for n := range 24 {
		out = append(out, int(chance.Uint64()>>(n*5/2)))
	}
	slices.Sort(out)
	return slices.Compact(out)
}

// scale is a width, and what is reckoned at it, without bounds.
type scale struct {
	wide bool
	bits uint
}

func scales() []scale { return []scale{{false, 32}, {true, 64}} }

func power(n uint) *big.Int { return new(big.Int).Lsh(big.NewInt(1), n) }

// plain: what is left of n at the width, as a number without a sign.
func (s scale) plain(n *big.Int) *big.Int { return new(big.Int).Mod(n, power(s.bits)) }

// signed: what is left of n at the width, as a number with a sign.
func (s scale) signed(n *big.Int) *big.Int {
	out := s.plain(n)
	if out.Bit(int(s.bits)-1) == 1 {
		out.Sub(out, power(s.bits))
	}
	return out
}

func (s scale) plainOf(v int) *big.Int  { return s.plain(big.NewInt(int64(v))) }
func (s scale) signedOf(v int) *big.Int { return s.signed(big.NewInt(int64(v))) }

// told: what is left of n at the width, as a call tells it.
func (s scale) told(n *big.Int) int {
	if s.wide {
		return int(s.signed(n).Int64())
	}
	return int(s.plain(n).Int64())
}

func (s scale) fitsPlain(n *big.Int) bool  { return s.plain(n).Cmp(n) == 0 }
func (s scale) fitsSigned(n *big.Int) bool { return s.signed(n).Cmp(n) == 0 }

func (s scale) alu(kind, a, b int) (int, api.Flags) {
	x, y := s.plainOf(a), s.plainOf(b)
	var f api.Flags
	out := new(big.Int)
	switch kind {
	case api.Add:
		out.Add(x, y)
		f.O = !s.fitsSigned(new(big.Int).Add(s.signedOf(a), s.signedOf(b)))
	case api.Sub, api.Cmp:
		out.Sub(x, y)
		f.O = !s.fitsSigned(new(big.Int).Sub(s.signedOf(a), s.signedOf(b)))
	case api.Or:
		out.Or(x, y)
	case api.And:
		out.And(x, y)
	case api.Xor:
		out.Xor(x, y)
	}
	f.C = !s.fitsPlain(out)
	f.Z = s.plain(out).Sign() == 0
	f.S = s.signed(out).Sign() < 0
	if kind == api.Cmp {
		out = x
	}
	return s.told(out), f
}

// shift takes moves as products and quotients by powers of two, and turns bit by bit.
func (s scale) shift(kind, v, n int) int {
	by := int(new(big.Int).Mod(big.NewInt(int64(n)), big.NewInt(int64(s.bits))).Int64())
	x, out := s.plainOf(v), new(big.Int)
	switch kind {
	case api.Shl:
		return s.told(out.Mul(x, power(uint(by))))
	case api.Shr:
		return s.told(out.Div(x, power(uint(by))))
	case api.Sar:
		return s.told(out.Div(s.signedOf(v), power(uint(by))))
	case api.Ror:
		by = -by
	}
	size := int(s.bits)
	for i := range size {
		out.SetBit(out, (i+by+size)%size, x.Bit(i))
	}
	return s.told(out)
}

func (s scale) div(high, low, by int) (quot, rest int, ok bool) {
	whole := new(big.Int).Add(new(big.Int).Mul(s.plainOf(high), power(s.bits)), s.plainOf(low))
	d := s.plainOf(by)
	if d.Sign() == 0 {
		return 0, 0, false
	}
	q, r := new(big.Int).QuoRem(whole, d, new(big.Int))
	if !s.fitsPlain(q) {
		return 0, 0, false
	}
	return s.told(q), s.told(r), true
}

func (s scale) idiv(high, low, by int) (quot, rest int, ok bool) {
	n, d := s.signedOf(low), s.signedOf(by)
	whole := new(big.Int).Add(new(big.Int).Mul(s.signedOf(high), power(s.bits)), s.plainOf(low))
	// The whole is low's own number only where high is all bits of low's topmost one.
	if d.Sign() == 0 || whole.Cmp(n) != 0 {
		return 0, 0, false
	}
	q, r := new(big.Int).QuoRem(n, d, new(big.Int))
	if !s.fitsSigned(q) {
		return 0, 0, false
	}
	return s.told(q), s.told(r), true
}

// P10.1

func TestTrimOfManyNumbers(t *testing.T) {
	for _, s := range scales() {
		for _, v := range numbers() {
			if got, want := flags.Trim(s.wide, v), s.told(big.NewInt(int64(v))); got != want {
				t.Errorf("Trim(%v, %x) = %x; want %x", s.wide, v, got, want)
			}
		}
	}
}

func TestAluOfManyNumbers(t *testing.T) {
	seen := map[int]map[api.Flags]int{}
	for _, s := range scales() {
		for _, kind := range kinds {
			if seen[kind] == nil {
				seen[kind] = map[api.Flags]int{}
			}
			for _, a := range numbers() {
				for _, b := range numbers() {
					v, f, ok := flags.Alu(kind, s.wide, a, b)
					wantV, wantF := s.alu(kind, a, b)
					if v != wantV || f != wantF || !ok {
						t.Fatalf("Alu(%d, %v, %x, %x) = %x, %+v, %v; want %x, %+v", kind, s.wide, a, b, v, f, ok, wantV, wantF)
					}
					seen[kind][f]++
				}
			}
		}
	}
	// All that a kind can leave has been seen, of a sum: Z, ZC, ZCO, S, SO, SC, C, CO, none; of a difference: Z, S, SC, SCO, C, O, none; of bits: Z, S, none.
	for kind, want := range map[int]int{api.Add: 9, api.Sub: 7, api.Cmp: 7, api.Or: 3, api.And: 3, api.Xor: 3} {
		if len(seen[kind]) != want {
			t.Errorf("kind %d left %d kinds of flags, %v; want %d", kind, len(seen[kind]), seen[kind], want)
		}
	}
}

// P10.2

func TestConditionsComeInOpposites(t *testing.T) {
	for _, pair := range [][2]int{{api.CB, api.CAE}, {api.CE, api.CNE}, {api.CBE, api.CA}, {api.CL, api.CGE}, {api.CLE, api.CG}} {
		for _, f := range allFlags() {
			one, ok1 := flags.Holds(pair[0], f)
			other, ok2 := flags.Holds(pair[1], f)
			if one == other || !ok1 || !ok2 {
				t.Errorf("%v at %+v: %v and %v", pair, f, one, other)
			}
		}
	}
}

// P10.3

func TestShiftOfManyNumbers(t *testing.T) {
	for _, s := range scales() {
		for _, kind := range shifts {
			for _, v := range numbers() {
				for n := -70; n <= 140; n++ {
					if got, ok := flags.Shift(kind, s.wide, v, n); got != s.shift(kind, v, n) || !ok {
						t.Fatalf("Shift(%d, %v, %x, %d) = %x, %v; want %x", kind, s.wide, v, n, got, ok, s.shift(kind, v, n))
					}
				}
				for _, n := range numbers() {
					if got, ok := flags.Shift(kind, s.wide, v, n); got != s.shift(kind, v, n) || !ok {
						t.Fatalf("Shift(%d, %v, %x, %x) = %x, %v; want %x", kind, s.wide, v, n, got, ok, s.shift(kind, v, n))
					}
				}
			}
		}
	}
}

func TestDivisionsOfManyNumbers(t *testing.T) {
	right := map[string]int{}
	some := numbers()
	for _, s := range scales() {
		for _, high := range some {
			for _, low := range some {
				for _, by := range some {
					q, r, ok := flags.Div(s.wide, high, low, by)
					if wq, wr, wok := s.div(high, low, by); q != wq || r != wr || ok != wok {
						t.Fatalf("Div(%v, %x, %x, %x) = %x, %x, %v; want %x, %x, %v", s.wide, high, low, by, q, r, ok, wq, wr, wok)
					} else if ok {
						right["Div"]++
					}
					q, r, ok = flags.Idiv(s.wide, high, low, by)
					if wq, wr, wok := s.idiv(high, low, by); q != wq || r != wr || ok != wok {
						t.Fatalf("Idiv(%v, %x, %x, %x) = %x, %x, %v; want %x, %x, %v", s.wide, high, low, by, q, r, ok, wq, wr, wok)
					} else if ok {
						right["Idiv"]++
					}
				}
			}
		}
	}
	if right["Div"] < 10000 || right["Idiv"] < 10000 {
		t.Errorf("too few divisions were right: %v", right)
	}
}

// P10.4

func TestConditionsOfAComparisonTellHowTheNumbersStand(t *testing.T) {
	stands := map[int][]int{api.CE: {0}, api.CNE: {-1, 1},
		api.CB: {-1}, api.CAE: {0, 1}, api.CBE: {-1, 0}, api.CA: {1},
		api.CL: {-1}, api.CGE: {0, 1}, api.CLE: {-1, 0}, api.CG: {1}}
	for _, s := range scales() {
		for _, a := range numbers() {
			for _, b := range numbers() {
				_, f, _ := flags.Alu(api.Cmp, s.wide, a, b)
				for _, cond := range conditions {
					order := s.plainOf(a).Cmp(s.plainOf(b))
					if cond >= api.CL {
						order = s.signedOf(a).Cmp(s.signedOf(b))
					}
					if holds, ok := flags.Holds(cond, f); holds != slices.Contains(stands[cond], order) || !ok {
						t.Fatalf("%x with %x, wide %v, flags %+v: Holds(%d) = %v, %v", a, b, s.wide, f, cond, holds, ok)
					}
				}
			}
		}
	}
}
