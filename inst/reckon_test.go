package inst_test

import (
	"math"
	"math/big"
	"slices"

	"oubliette/api"
)

// group is what the chapter says of the instructions of one kind.
type group struct {
	kind int
	ops  []int
}

func groups() []group {
	return []group{
		{1, append([]int{
			api.Unreachable, api.Nop, api.Else, api.End, api.Return, api.Drop, api.Select, api.Classify, api.Declassify,
			api.I32Wrap, api.I64ExtendS, api.I64ExtendU,
		}, slices.Concat(from(api.I32Eqz, api.I64GeU), from(api.I32Add, api.I32Rotr), from(api.I64Add, api.I64Rotr))...)},
		{2, []int{api.Block, api.Loop, api.If}},
		{3, []int{api.Br, api.BrIf, api.Call, api.LocalGet, api.LocalSet, api.LocalTee, api.GlobalGet, api.GlobalSet}},
		{4, []int{api.I32Load, api.I64Load, api.I32Store, api.I64Store}},
		{5, []int{api.I32Const}},
		{6, []int{api.I64Const}},
	}
}

func from(first, last int) []int {
	var out []int
	for op := first; op <= last; op++ {
		out = append(out, op)
	}
	return out
}

// kinds is made once: it is asked at every one of many numbers.
var kinds = func() map[int]int {
	out := map[int]int{}
	for _, g := range groups() {
		for _, op := range g.ops {
			out[op] = g.kind
		}
	}
	return out
}()

// kindOf is 0 of what is no instruction.
func kindOf(op int) int { return kinds[op] }

// noInstructions are numbers that no instruction has: those of the 256 bytes that are none, numbers around them, and such whose low bits are an instruction's.
func noInstructions() []int {
	out := []int{math.MinInt, math.MinInt + 1, math.MaxInt, math.MinInt32, math.MaxInt32, math.MaxUint32, 1 << 32}
	for n := -300; n < 600; n++ {
		if kindOf(n) == 0 {
			out = append(out, n)
		}
	}
	for _, g := range groups() {
		for _, op := range g.ops {
			out = append(out, op|1<<8, op|1<<16, op|1<<32, op|1<<62, op|math.MinInt, op-1<<8, op-1<<32, ^op)
		}
	}
	slices.Sort(out)
	return slices.Compact(out)
}

// numbers are such at which a kind's bounds, or how many bytes a number has, change.
func numbers() []int {
	out := []int{300, -300, 0x12345678, -0x12345678, 0x123456789abcdef, -0x123456789abcdef}
	for bit := range 64 {
		for off := -2; off <= 2; off++ {
			out = append(out, 1<<bit+off, -1<<bit+off)
		}
	}
	slices.Sort(out)
	return slices.Compact(out)
}

// seconds are numbers that may stand as M, and such that may not.
func seconds() []int {
	return []int{math.MinInt, math.MinInt + 1, -1 << 32, -256, -2, -1, 0, 1, 2, 3, 4, 5, 6, 7, 8, 255, 256, 257, 1 << 32, 1<<32 + 1, math.MaxInt - 1, math.MaxInt}
}

// right is the chapter's sentences on the kinds, one by one.
func right(x api.Instr) bool {
	index := 0 <= x.N && x.N <= 1<<32-1
	switch kindOf(x.Op) {
	case 1:
		return x.N == 0 && x.M == 0
	case 2:
		return x.N == 0 && 0 <= x.M && x.M <= 4
	case 3:
		return index && x.M == 0
	case 4:
		return index && (x.M == 0 || x.M == 1)
	case 5:
		return -1<<31 <= x.N && x.N <= 1<<31-1 && x.M == 0
	case 6:
		return x.M == 0
	}
	return false
}

// written is what the chapter says of an instruction that is right.
func written(x api.Instr) string {
	first := string([]byte{byte(x.Op)})
	switch kindOf(x.Op) {
	case 2:
		return first + []string{"\x40", "\x7f", "\x7e", "\x7d", "\x7c"}[x.M]
	case 3:
		return first + writtenU(x.N)
	case 4:
		return first + writtenU(x.M) + writtenU(x.N)
	case 5, 6:
		return first + writtenS(x.N)
	}
	return first
}

// writtenU divides by 128 until nothing is left.
func writtenU(n int) string {
	if n < 128 {
		return string([]byte{byte(n)})
	}
	return string([]byte{byte(n%128 + 128)}) + writtenU(n/128)
}

// writtenS divides by 128 with a rest that is never below 0, until seven bits with a sign can tell the number.
func writtenS(n int) string {
	if -64 <= n && n <= 63 {
		return string([]byte{byte(n+128) % 128})
	}
	low := (n%128 + 128) % 128
	// What low is more than the truncated rest is taken off in two parts, so that it cannot wrap.
	next := n / 128
	if n%128 < 0 {
		next--
	}
	return string([]byte{byte(low + 128)}) + writtenS(next)
}

// taken reads an instruction by the form of its numbers alone: it writes nothing to hold it against.
func taken(b string) (x api.Instr, rest string, ok bool) {
	if b == "" {
		return x, "", false
	}
	op, rest := int(b[0]), b[1:]
	n, m := 0, 0
	kind := kindOf(op)
	switch kind {
	case 1:
		ok = true
	case 2:
		m, rest, ok = takenBlock(rest)
	case 3:
		n, rest, ok = takenNumber(rest, false, 0, 1<<32-1)
	case 4:
		if m, rest, ok = takenNumber(rest, false, 0, 1); ok {
			n, rest, ok = takenNumber(rest, false, 0, 1<<32-1)
		}
	case 5:
		n, rest, ok = takenNumber(rest, true, -1<<31, 1<<31-1)
	case 6:
		n, rest, ok = takenNumber(rest, true, math.MinInt, math.MaxInt)
	}
	if !ok {
		return api.Instr{}, "", false
	}
	return api.Instr{Op: op, N: n, M: m}, rest, true
}

func takenBlock(b string) (m int, rest string, ok bool) {
	if b == "" {
		return 0, "", false
	}
	switch b[0] {
	case 0x40:
		return 0, b[1:], true
	case 0x7f:
		return 1 + api.I32, b[1:], true
	case 0x7e:
		return 1 + api.I64, b[1:], true
	case 0x7d:
		return 1 + api.S32, b[1:], true
	case 0x7c:
		return 1 + api.S64, b[1:], true
	}
	return 0, "", false
}

// takenNumber reads the bytes as far as the first one below 128, without a bound, and holds the number against the least and the greatest.
func takenNumber(b string, signed bool, least, most int) (n int, rest string, ok bool) {
	end := 0
	for end < len(b) && b[end] >= 128 {
		end++
	}
	if end == len(b) {
		return 0, "", false
	}
	last := b[end]
	if end > 0 && !signed && last == 0 {
		return 0, "", false
	}
	if end > 0 && signed && (last == 0 && b[end-1]&64 == 0 || last == 127 && b[end-1]&64 != 0) {
		return 0, "", false
	}
	v := new(big.Int)
	for i := end; i >= 0; i-- {
		v.Lsh(v, 7).Add(v, big.NewInt(int64(b[i]%128)))
	}
	if signed && last&64 != 0 {
		v.Sub(v, new(big.Int).Lsh(big.NewInt(1), uint(7*(end+1))))
	}
	if !v.IsInt64() || v.Int64() < int64(least) || v.Int64() > int64(most) {
		return 0, "", false
	}
	return int(v.Int64()), b[end+1:], true
}

// instructions are such of every kind, at all numbers that are right.
func instructions() []api.Instr {
	var out []api.Instr
	for _, g := range groups() {
		for _, op := range g.ops {
			for _, n := range numbers() {
				for _, m := range seconds() {
					if x := (api.Instr{Op: op, N: n, M: m}); right(x) {
						out = append(out, x)
					}
				}
			}
		}
	}
	return out
}
