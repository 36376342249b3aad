package word_test

import (
	"math"
	"math/big"
	"slices"
	"strings"

	"oubliette/api"
)

// row is some instructions of one kind, with what the chapter says of how many values they take and of what widths.
type row struct {
	name            string
	ops             []int
	names           []string
	takes, from, to int
}

const orders = "Eq Ne LtS LtU GtS GtU LeS LeU GeS GeU"
const sums = "Add Sub Mul DivS DivU RemS RemU And Or Xor Shl ShrS ShrU Rotl Rotr"

func rows() []row {
	return []row{
		newRow("I32 of one value", "Eqz", 1, 0, 0, api.I32Eqz),
		newRow("I64 of one value", "Eqz", 1, 1, 0, api.I64Eqz),
		newRow("I32 comparisons", orders, 2, 0, 0, api.I32Eq, api.I32Ne, api.I32LtS, api.I32LtU, api.I32GtS, api.I32GtU, api.I32LeS, api.I32LeU, api.I32GeS, api.I32GeU),
		newRow("I64 comparisons", orders, 2, 1, 0, api.I64Eq, api.I64Ne, api.I64LtS, api.I64LtU, api.I64GtS, api.I64GtU, api.I64LeS, api.I64LeU, api.I64GeS, api.I64GeU),
		newRow("I32 sums", sums, 2, 0, 0, api.I32Add, api.I32Sub, api.I32Mul, api.I32DivS, api.I32DivU, api.I32RemS, api.I32RemU, api.I32And, api.I32Or, api.I32Xor, api.I32Shl, api.I32ShrS, api.I32ShrU, api.I32Rotl, api.I32Rotr),
		newRow("I64 sums", sums, 2, 1, 1, api.I64Add, api.I64Sub, api.I64Mul, api.I64DivS, api.I64DivU, api.I64RemS, api.I64RemU, api.I64And, api.I64Or, api.I64Xor, api.I64Shl, api.I64ShrS, api.I64ShrU, api.I64Rotl, api.I64Rotr),
		newRow("Wrap", "Wrap", 1, 1, 0, api.I32Wrap),
		newRow("Extends", "ExtendS ExtendU", 1, 0, 1, api.I64ExtendS, api.I64ExtendU),
	}
}

func newRow(name, names string, takes, from, to int, ops ...int) row {
	return row{name, ops, strings.Fields(names), takes, from, to}
}

// numbers are those around 0, around each width's bits and edges, and some of many bits; each once.
func numbers() []int {
	var out []int
	for d := -3; d <= 3; d++ {
		for _, n := range []int{0, 32, 64, -32, -64, 1 << 31, 1 << 32, -1 << 31, -1 << 32, 1 << 48, -1 << 62} {
			out = append(out, n+d)
		}
	}
	for d := range 3 {
		out = append(out, math.MinInt+d, math.MaxInt-d)
	}
	for n := range 16 {
		out = append(out, int(uint64(n+1)*0x9e3779b97f4a7c15)>>(4*n))
	}
	out = append(out, 0x12345678, 0x80000001, 0x0123456789abcdef)
	slices.Sort(out)
	return slices.Compact(out)
}

// value is a number at a width, as one without a sign and as one with it, both without bounds.
type value struct{ plain, signed *big.Int }

func power(n uint) *big.Int { return new(big.Int).Lsh(big.NewInt(1), n) }

func valueOf(n *big.Int, bits uint) value {
	plain := new(big.Int).Mod(n, power(bits))
	signed := new(big.Int).Set(plain)
	if plain.Cmp(power(bits-1)) >= 0 {
		signed.Sub(signed, power(bits))
	}
	return value{plain, signed}
}

// reckoned is what the chapter says of an instruction, reckoned without bounds and cut at the end.
func reckoned(r row, name string, a, b int) (v, trap int) {
	bits := uint(32 + 32*r.from)
	x, y := valueOf(big.NewInt(int64(a)), bits), valueOf(big.NewInt(int64(b)), bits)
	out, trap := new(big.Int), 0
	switch {
	case name == "Eqz" || strings.Contains(" "+orders+" ", " "+name+" "):
		out.SetInt64(int64(holds(name, x, y)))
	case strings.HasPrefix(name, "Div") || strings.HasPrefix(name, "Rem"):
		out, trap = divided(name, x, y, bits)
	case strings.HasPrefix(name, "Sh") || strings.HasPrefix(name, "Rot"):
		out = moved(name, x, int(new(big.Int).Mod(y.plain, big.NewInt(int64(bits))).Int64()), bits)
	case name == "Add":
		out.Add(x.plain, y.plain)
	case name == "Sub":
		out.Sub(x.plain, y.plain)
	case name == "Mul":
		out.Mul(x.plain, y.plain)
	case name == "And":
		out.And(x.plain, y.plain)
	case name == "Or":
		out.Or(x.plain, y.plain)
	case name == "Xor":
		out.Xor(x.plain, y.plain)
	case name == "ExtendS":
		out = x.signed
	default: // Wrap, ExtendU
		out = x.plain
	}
	if r.to == 0 {
		return int(valueOf(out, 32).plain.Int64()), trap
	}
	return int(valueOf(out, 64).signed.Int64()), trap
}

func holds(name string, x, y value) int {
	order := x.plain.Cmp(y.plain)
	if name == "Eqz" {
		order = x.plain.Sign()
	} else if strings.HasSuffix(name, "S") {
		order = x.signed.Cmp(y.signed)
	}
	asked := map[string][]int{"Eq": {0}, "Ne": {-1, 1}, "Lt": {-1}, "Gt": {1}, "Le": {-1, 0}, "Ge": {0, 1}}
	if slices.Contains(asked[name[:2]], order) {
		return 1
	}
	return 0
}

func divided(name string, x, y value, bits uint) (*big.Int, int) {
	if y.plain.Sign() == 0 {
		return new(big.Int), api.TrapZero
	}
	a, b := x.plain, y.plain
	if strings.HasSuffix(name, "S") {
		a, b = x.signed, y.signed
	}
	quotient, rest := new(big.Int).QuoRem(a, b, new(big.Int))
	if strings.HasPrefix(name, "Rem") {
		return rest, 0
	}
	if name == "DivS" && quotient.Cmp(power(bits-1)) == 0 {
		return new(big.Int), api.TrapOver
	}
	return quotient, 0
}

// moved takes shifts as products and quotients by powers of two, and turns bit by bit.
func moved(name string, x value, n int, bits uint) *big.Int {
	out := new(big.Int)
	switch name {
	case "Shl":
		return out.Mul(x.plain, power(uint(n)))
	case "ShrS":
		return out.Div(x.signed, power(uint(n)))
	case "ShrU":
		return out.Div(x.plain, power(uint(n)))
	case "Rotr":
		n = -n
	}
	size := int(bits)
	for i := range size {
		out.SetBit(out, (i+n+size)%size, x.plain.Bit(i))
	}
	return out
}
