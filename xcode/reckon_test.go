package xcode_test

import (
	"math"

	"oubliette/api"
)

var (
	sums       = []int{api.Add, api.Or, api.And, api.Sub, api.Xor, api.Cmp}
	shifts     = []int{api.Rol, api.Ror, api.Shl, api.Shr, api.Sar}
	conditions = []int{api.CB, api.CAE, api.CE, api.CNE, api.CBE, api.CA, api.CL, api.CGE, api.CLE, api.CG}
	both       = []bool{false, true}
)

// head is an instruction with N 0, its bytes ahead of N, and how many bytes N has.
type head struct {
	x    api.X
	b    string
	size int
}

// heads are all that there are: the rows of the chapter's table, one by one.
var heads = func() []head {
	var out []head
	for _, l := range [][]head{twoRegisters(), oneRegister(), places(), registerless()} {
		out = append(out, l...)
	}
	return out
}()

var (
	headOf    = map[api.X]head{}
	headNamed = map[string]head{}
)

func init() {
	for _, h := range heads {
		headOf[h.x], headNamed[h.b] = h, h
	}
}

// bytesOf is a text of numbers that are each one byte.
func bytesOf(l ...int) string {
	var out []byte
	for _, n := range l {
		out = append(out, byte(n))
	}
	return string(out)
}

func rex(w bool, r, x, b int) string {
	n := 64
	for _, part := range []struct {
		is   bool
		bits int
	}{{w, 8}, {r >= 8, 4}, {x >= 8, 2}, {b >= 8, 1}} {
		if part.is {
			n += part.bits
		}
	}
	if n == 64 {
		return ""
	}
	return bytesOf(n)
}

func mr(mod, reg, rm int) int { return mod*64 + reg%8*8 + rm%8 }

func twoRegisters() []head {
	var out []head
	for r := range 16 {
		for b := range 16 {
			out = append(out, head{api.X{Op: api.XWiden, Wide: true, R: r, B: b}, rex(true, r, 0, b) + bytesOf(0x63, mr(3, r, b)), 0})
			for _, w := range both {
				out = append(out,
					head{api.X{Op: api.XMov, Wide: w, R: r, B: b}, rex(w, r, 0, b) + bytesOf(0x89, mr(3, r, b)), 0},
					head{api.X{Op: api.XTest, Wide: w, R: r, B: b}, rex(w, r, 0, b) + bytesOf(0x85, mr(3, r, b)), 0},
					head{api.X{Op: api.XMul, Wide: w, R: r, B: b}, rex(w, r, 0, b) + bytesOf(0x0f, 0xaf, mr(3, r, b)), 0})
				for _, c := range sums {
					out = append(out, head{api.X{Op: api.XAlu, Wide: w, R: r, B: b, C: c}, rex(w, r, 0, b) + bytesOf(8*c+1, mr(3, r, b)), 0})
				}
				for _, c := range conditions {
					out = append(out, head{api.X{Op: api.XCmov, Wide: w, R: r, B: b, C: c}, rex(w, r, 0, b) + bytesOf(0x0f, 0x40+c, mr(3, r, b)), 0})
				}
			}
		}
	}
	return out
}

func oneRegister() []head {
	var out []head
	for r := range 16 {
		out = append(out, head{api.X{Op: api.XMovI, Wide: true, R: r}, rex(true, 0, 0, r) + bytesOf(0xb8+r%8), 8})
		for _, w := range both {
			for _, c := range sums {
				out = append(out, head{api.X{Op: api.XAluI, Wide: w, B: r, C: c}, rex(w, 0, 0, r) + bytesOf(0x81, mr(3, c, r)), 4})
			}
			for _, c := range shifts {
				out = append(out, head{api.X{Op: api.XShift, Wide: w, B: r, C: c}, rex(w, 0, 0, r) + bytesOf(0xd3, mr(3, c, r)), 0})
			}
			out = append(out,
				head{api.X{Op: api.XDiv, Wide: w, B: r}, rex(w, 0, 0, r) + bytesOf(0xf7, mr(3, 6, r)), 0},
				head{api.X{Op: api.XIdiv, Wide: w, B: r}, rex(w, 0, 0, r) + bytesOf(0xf7, mr(3, 7, r)), 0})
		}
	}
	return out
}

func places() []head {
	var out []head
	for r := range 16 {
		for b := range 16 {
			for _, w := range both {
				for _, i := range []int{0, 1, 2, 3, 4, 6, 7, 8, 9, 10, 11, 12, 13, 14, 15, 16} {
					index := i - 1
					if i == 0 {
						index = 4
					}
					out = append(out,
						head{api.X{Op: api.XLoad, Wide: w, R: r, B: b, I: i}, rex(w, r, index, b) + bytesOf(0x8b, mr(2, r, 4), mr(0, index, b)), 4},
						head{api.X{Op: api.XStore, Wide: w, R: r, B: b, I: i}, rex(w, r, index, b) + bytesOf(0x89, mr(2, r, 4), mr(0, index, b)), 4})
				}
			}
		}
	}
	return out
}

func registerless() []head {
	out := []head{
		{api.X{Op: api.XSign}, "\x99", 0}, {api.X{Op: api.XSign, Wide: true}, "\x48\x99", 0}, {api.X{Op: api.XByte}, "\x0f\xb6\xc0", 0},
		{api.X{Op: api.XJmp}, "\xe9", 4}, {api.X{Op: api.XCall}, "\xe8", 4},
		{api.X{Op: api.XRet}, "\xc3", 0}, {api.X{Op: api.XHlt}, "\xf4", 0}, {api.X{Op: api.XStop}, "\x0f\x0b", 0}, {api.X{Op: api.XHost}, "\xcc", 0},
	}
	for _, c := range conditions {
		out = append(out,
			head{api.X{Op: api.XSet, C: c}, bytesOf(0x0f, 0x90+c, 0xc0), 0},
			head{api.X{Op: api.XJcc, C: c}, bytesOf(0x0f, 0x80+c), 4})
	}
	return out
}

// numbers are such as a number of no, of 4 or of 8 bytes may be, and such as it may not.
func numbers() []int {
	return []int{
		0, 1, -1, 8, 16, -5, 127, 128, 255, 256, -128, -129, 0x10000, 0x12345678, -0x12345678, math.MaxInt32, math.MinInt32,
		math.MaxInt32 + 1, math.MinInt32 - 1, math.MaxUint32, 1 << 32, -1 << 32, 1<<32 + 1, 0x123456789abcdef0, -0x123456789abcdef0, math.MaxInt, math.MinInt,
	}
}

// fits: whether n may be a number of so many bytes.
func fits(n, size int) bool {
	switch size {
	case 0:
		return n == 0
	case 4:
		return -2147483648 <= n && n <= 2147483647
	}
	return true
}

// written is n in so many bytes: what is left of it by 256, again and again.
func written(n, size int) string {
	if size == 0 {
		return ""
	}
	low := (n%256 + 256) % 256
	next := n / 256
	if n%256 < 0 {
		next--
	}
	return bytesOf(low) + written(next, size-1)
}

// right is what the table has, with a number that fits.
func right(x api.X) bool {
	bare := x
	bare.N = 0
	h, ok := headOf[bare]
	return ok && fits(x.N, h.size)
}

// taken looks b's beginnings up, the shorter ones first, without writing anything.
func taken(b string) (x api.X, n int, ok bool) {
	for long := range min(len(b), 5) + 1 {
		h, ok := headNamed[b[:long]]
		if !ok || len(b) < long+h.size {
			continue
		}
		x, n = h.x, long+h.size
		x.N = number(b[long:n])
		return x, n, true
	}
	return api.X{}, 0, false
}

// number is of the two's complement that b is, its first byte the least; of none it is 0.
func number(b string) int {
	if b == "" {
		return 0
	}
	n := int(int8(b[len(b)-1]))
	for i := len(b) - 2; i >= 0; i-- {
		n = n*256 + int(b[i])
	}
	return n
}

// instructions are all that there are, with each of the numbers that they may have.
func instructions(each func(x api.X, b string)) {
	l := numbers()
	for at, h := range heads {
		for i, n := range l {
			// The many loads and stores take turns at the numbers, all others have each of them.
			if (h.x.Op == api.XLoad || h.x.Op == api.XStore) && i != 0 && i != at/2%len(l) {
				continue
			}
			if fits(n, h.size) {
				x := h.x
				x.N = n
				each(x, h.b+written(n, h.size))
			}
		}
	}
}
